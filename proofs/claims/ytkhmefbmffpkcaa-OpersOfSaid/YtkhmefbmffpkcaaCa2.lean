/- Stage, Parts -/
import Derived.Deep.Quiet
import Derived.StillTail
import Derived.BigQuiet
import Derived.Test.YtkhmefbmffpkcaaCa1
import Derived.Laws.CopyOwn
import Derived.Laws.Tables
namespace Go.Proofs.Ytkhmefbmffpkcaa
set_option linter.unusedVariables false
section
namespace Stage
section
variable {P : Program} {ops : Array Oper} {md : Region.Mode} {C : Array Bool → World → Prop}

/-- carried out in w it yields v, in a world of the class -/
def upon (P : Program) (C : World → Prop) (v : Value) : Result Next → Prop
  | .ok (.value u) w' => u = v ∧ C w'
  | .ok .skip w' => v = undef ∧ C w'
  | .ok (.enter f args) w' => Calls P f args w' (fun e w'' => e = .returned v ∧ C w'')
  | _ => False
def at_ (P : Program) (o : Oper) (a : Act) (C : World → Prop) (w : World) (v : Value) : Prop := upon P C v ((execOp a.eval o).run P w)
/-- what holds of all that has come up, in whatever order -/
structure Fit (md : Region.Mode) (ops : Array Oper) (S : Array Bool) : Prop where
  size : S.size = ops.size
  closed : ∀ (j : Nat) (oj : Oper), ops[j]? = some oj → S.getD j false = true → ∀ e ∈ oj.after, Region.binds md e = true → S.getD e.on false = true
theorem Fit.start : Fit md ops (Array.replicate ops.size false) := ⟨by simp, fun j oj hj h => by rw [getD_replicate_false] at h; cases h⟩
theorem Fit.set {S : Array Bool} {i : Nat} (h : Fit md ops S) (hi : i ∈ Region.ready md ops S) : Fit md ops (S.setIfInBounds i true) := by
  obtain ⟨_, oi, hoi, hall⟩ := mem_ready.1 hi
  refine ⟨by simp [h.size], fun j oj hj hl e he hb => ?_⟩
  by_cases hij : i = j
  · subst hij
    obtain rfl : oj = oi := Option.some.inj (hj.symm.trans hoi)
    exact getD_set_true (hall e he hb)
  · rw [getD_set_ne false hij] at hl
    exact getD_set_true (h.closed j oj hj hl e he hb)
/-- operation K waits for i, straight or by others -/
def leads (md : Region.Mode) (ops : Array Oper) : Nat → Nat → Nat → Bool
  | 0, _, _ => false
  | n + 1, i, K => Region.waitsFor md ops K i || (List.range ops.size).any fun j => Region.waitsFor md ops j i && leads md ops n j K
theorem in_false {S : Array Bool} {i : Nat} (hi : i < S.size) : S.getD i true = false ↔ S.getD i false = false := by simp [hi]
theorem Fit.not {S : Array Bool} (h : Fit md ops S) {i j : Nat} (hi : S.getD i true = false) (hw : Region.waitsFor md ops j i = true) : S.getD j true = false := by
  obtain ⟨o, ho, e, he, hb, hon⟩ := Region.waitsFor_spec hw
  have hj : j < S.size := by rw [h.size]; exact (Array.getElem?_eq_some_iff.1 ho).1
  cases hx : S.getD j true with
  | false => rfl
  | true =>
    have hx' : S.getD j false = true := by simp [hj] at hx ⊢; exact hx
    have := h.closed j o ho hx' e he hb
    rw [hon, getD_both hi] at this; cases this
theorem Fit.before {S : Array Bool} (h : Fit md ops S) {K : Nat} : ∀ (n i : Nat), S.getD i true = false → leads md ops n i K = true → S.getD K true = false := by
  intro n
  induction n with
  | zero => intro i _ hl; cases hl
  | succ n ih =>
    intro i hi hl
    simp only [leads, Bool.or_eq_true, List.any_eq_true, Bool.and_eq_true] at hl
    rcases hl with hl | ⟨j, _, hw, hl⟩
    · exact h.not hi hl
    · exact ih j (h.not hi hw) hl
/-- whenever it comes up -/
def Yields (P : Program) (md : Region.Mode) (ops : Array Oper) (C : Array Bool → World → Prop) (i : Nat) (o : Oper) (v : Value) (a : Act) : Prop :=
  (Region.wanted o (yielded ops a.tmps) = true ∧ ∀ S w, Fit md ops S → i ∈ Region.ready md ops S → C S w → at_ P o a (C (S.setIfInBounds i true)) w v) ∨
  (Region.wanted o (yielded ops a.tmps) = false ∧ v = undef ∧ ∀ S w, Fit md ops S → i ∈ Region.ready md ops S → C S w → C (S.setIfInBounds i true) w)
def sOp (P : Program) (md : Region.Mode) (ops : Array Oper) (C : Array Bool → World → Prop) (i : Nat) (K : Act → Prop) (a : Act) : Prop :=
  ∃ o v, ops[i]? = some o ∧ Yields P md ops C i o v a ∧ K (a.put o.dst v)
theorem sOp_mono {i : Nat} {a : Act} {K K' : Act → Prop} (h : ∀ a, K a → K' a) (hh : sOp P md ops C i K a) : sOp P md ops C i K' a := by
  obtain ⟨o, v, h1, h2, h3⟩ := hh
  exact ⟨o, v, h1, h2, h _ h3⟩
def wpAnyT (P : Program) (md : Region.Mode) (ops : Array Oper) (C : Array Bool → World → Prop) (Q : Act → Prop) : Nat → Array Bool → Act → Prop
  | 0, listed, a => Region.ready md ops listed = [] ∧ Q a
  | fuel + 1, listed, a => Region.ready md ops listed ≠ [] ∧ ∀ i ∈ Region.ready md ops listed, sOp P md ops C i (wpAnyT P md ops C Q fuel (listed.setIfInBounds i true)) a

theorem count_set {l : List Bool} : ∀ {i : Nat}, l.getD i true = false → (l.set i true).count false + 1 = l.count false := by
  induction l with
  | nil => intro i h; simp at h
  | cons b l ih =>
    intro i h
    cases i with
    | zero => simp at h; subst h; simp
    | succ i =>
      have := ih (i := i) (by simpa using h)
      simp only [List.set_cons_succ, List.count_cons]
      omega
theorem all_of_count {l : List Bool} (h : l.count false = 0) (i : Nat) : l.getD i true = true := by
  cases hb : l.getD i true with
  | true => rfl
  | false =>
    exfalso
    have hm : false ∈ l := by
      rw [List.getD_eq_getElem?_getD] at hb
      cases hx : l[i]? with
      | none => simp [hx] at hb
      | some x => simp [hx] at hb; subst hb; exact List.mem_of_getElem? hx
    have := List.count_pos_iff.2 hm
    omega
theorem getD_toList (S : Array Bool) (i : Nat) : S.getD i true = S.toList.getD i true := by
  simp [List.getD_eq_getElem?_getD]

theorem wpAny_of {Q : Act → Prop} {Q' : Exit → Act → World → Prop} (hQ : ∀ S a w, (∀ i, S.getD i true = true) → C S w → Q a → Q' .normal a w) : ∀ (fuel : Nat) (listed : Array Bool) (a : Act) (w : World), listed.toList.count false = fuel → Fit md ops listed → C listed w →
    wpAnyT P md ops C Q fuel listed a → wpAny P md ops Q' fuel listed a w
  | 0, listed, a, w, hn, _, hC, h => ⟨h.1, hQ _ _ _ (fun i => by rw [getD_toList]; exact all_of_count hn i) hC h.2⟩
  | fuel + 1, listed, a, w, hn, hF, hC, h => by
    refine ⟨fun h0 => absurd h0 h.1, fun i hi => ?_⟩
    obtain ⟨o, v, ho, hy, hK⟩ := h.2 i hi
    have hun := (mem_ready.1 hi).1
    have hc : (listed.setIfInBounds i true).toList.count false = fuel := by
      rw [Array.toList_setIfInBounds]
      have := count_set (l := listed.toList) (i := i) (by rw [← getD_toList]; exact hun)
      omega
    unfold wpOp
    simp only [ho]
    rcases hy with ⟨hw, hy⟩ | ⟨hw, rfl, hy⟩
    · rw [if_pos hw]
      refine .inl ?_
      have h1 := hy listed w hF hi hC
      unfold at_ at h1
      unfold Oper.wp
      generalize (execOp a.eval o).run P w = r at h1
      cases r with
      | ok n w' =>
        cases n <;> simp only [upon] at h1 <;> simp only [Oper.upon]
        case value u => obtain ⟨rfl, h2⟩ := h1; exact wpAny_of hQ fuel _ _ _ hc (hF.set hi) h2 hK
        case skip => obtain ⟨rfl, h2⟩ := h1; exact wpAny_of hQ fuel _ _ _ hc (hF.set hi) h2 hK
        case enter f args => exact h1.mono fun e w'' ⟨he, h2⟩ => by subst he; exact wpAny_of hQ fuel _ _ _ hc (hF.set hi) h2 hK
      | halt x w' => simp only [upon] at h1
    · rw [if_neg (by rw [hw]; exact Bool.false_ne_true)]
      exact wpAny_of hQ fuel _ _ _ hc (hF.set hi) (hy _ _ hF hi hC) hK

theorem Yields.of_same {i : Nat} {o : Oper} {v : Value} {a a' : Act} (hy : Yields P md ops C i o v a) (he : execOp a'.eval o = execOp a.eval o)
    (hw : Region.wanted o (yielded ops a'.tmps) = Region.wanted o (yielded ops a.tmps)) : Yields P md ops C i o v a' := by
  unfold Yields at_ at *
  rw [he, hw]
  exact hy

theorem sOp_put {i j : Nat} {oi oj : Oper} {v : Value} (hj : ops[j]? = some oj) (hap : oi.apart ops oj = true)
    (hsi : ∀ cs b, oi.op ≠ .select cs b) (hsj : ∀ cs b, oj.op ≠ .select cs b) {K : Act → Prop} {a : Act}
    (hy : Yields P md ops C i oi v a) (h : sOp P md ops C j K (a.put oi.dst v)) :
    sOp P md ops C j (fun a' => Yields P md ops C i oi v a' ∧ K (a'.put oi.dst v)) a := by
  obtain ⟨h1, h2, h3⟩ := Oper.apart_spec hap
  obtain ⟨o, u, ho, hu, hK⟩ := h
  obtain rfl : o = oj := Option.some.inj (ho.symm.trans hj)
  refine ⟨o, u, hj, hu.of_same (execOp_put o hsj a oi.dst v h1).symm (wanted_put o a oi.dst v h1).symm, ?_, ?_⟩
  · exact hy.of_same (execOp_put oi hsi a o.dst u h3) (wanted_put oi a o.dst u h3)
  · rw [← Act.put_comm a v u h2]; exact hK

theorem wpAnyT_first {Q : Act → Prop} {i : Nat} {oi : Oper} {v : Value} (hi : ops[i]? = some oi) (hsel : ∀ (j : Nat) (o : Oper) cs b, ops[j]? = some o → o.op ≠ .select cs b) :
    ∀ (fuel : Nat) (listed : Array Bool) (a : Act),
      (∀ j oj, ops[j]? = some oj → j ≠ i → listed.getD j true = false → (∀ e ∈ oj.after, Region.binds md e = true → e.on ≠ i) → oi.apart ops oj = true) →
      i ∈ Region.ready md ops listed → Yields P md ops C i oi v a →
      wpAnyT P md ops C Q fuel (listed.setIfInBounds i true) (a.put oi.dst v) → wpAnyT P md ops C Q (fuel + 1) listed a := by
  intro fuel
  induction fuel with
  | zero =>
    intro listed a _ hr hy H
    refine ⟨fun h => (by rw [h] at hr; cases hr), fun j hj => ?_⟩
    by_cases hji : j = i
    · subst hji; exact ⟨oi, v, hi, hy, H⟩
    · have := ready_mono hj hji
      rw [H.1] at this
      cases this
  | succ fuel ih =>
    intro listed a hfree hr hy H
    refine ⟨fun h => (by rw [h] at hr; cases hr), fun j hj => ?_⟩
    by_cases hji : j = i
    · subst hji; exact ⟨oi, v, hi, hy, H⟩
    · have h1 := H.2 j (ready_mono hj hji)
      obtain ⟨hjun, oj, hoj, hall⟩ := mem_ready.1 hj
      have hnot : ∀ e ∈ oj.after, Region.binds md e = true → e.on ≠ i := fun e he hb heq => by
        have h1 := hall e he hb
        have h0 := (mem_ready.1 hr).1
        rw [heq] at h1
        rcases Nat.lt_or_ge i listed.size with h' | h'
        · simp [h'] at h0 h1; rw [h0] at h1; cases h1
        · simp [Array.getElem?_eq_none h'] at h1
      have h2 := sOp_put hoj (hfree j oj hoj hji hjun hnot) (fun cs b => hsel i oi cs b hi) (fun cs b => hsel j oj cs b hoj) hy h1
      have hfree' : ∀ k ok, ops[k]? = some ok → k ≠ i → (listed.setIfInBounds j true).getD k true = false →
          (∀ e ∈ ok.after, Region.binds md e = true → e.on ≠ i) → oi.apart ops ok = true := fun k ok hk hki hun hno => by
        refine hfree k ok hk hki ?_ hno
        by_cases hjk : j = k
        · subst hjk; exact hjun
        · rw [getD_set_ne true hjk] at hun; exact hun
      refine sOp_mono (fun a' h3 => ih (listed.setIfInBounds j true) a' hfree' (ready_mono hr (Ne.symm hji)) h3.1 ?_) h2
      rw [Array.setIfInBounds_comm _ _ hji]
      exact h3.2

/-- the text's order, from operation k on -/
def wpSt (P : Program) (md : Region.Mode) (ops : Array Oper) (C : Array Bool → World → Prop) (Q : Act → Prop) : Nat → List Oper → Act → Prop
  | _, [], a => Q a
  | k, o :: rest, a => ∃ v, Yields P md ops C k o v a ∧ wpSt P md ops C Q (k + 1) rest (a.put o.dst v)

theorem wpAnyT_lex {Q : Act → Prop} (hs : Region.noSelect ops = true) : ∀ (l : List Oper) (k : Nat) (listed : Array Bool) (a : Act), (∀ j, l[j]? = ops[k + j]?) →
    Region.lexFrom md ops l.length k listed = true → wpSt P md ops C Q k l a → wpAnyT P md ops C Q l.length listed a
  | [], _, _, _, _, hB, h => ⟨by simpa [Region.lexFrom] using hB, h⟩
  | o :: l, k, listed, a, hl, hB, h => by
    have h0 : ops[k]? = some o := by simpa using (hl 0).symm
    simp only [List.length_cons, Region.lexFrom, Bool.and_eq_true] at hB
    obtain ⟨⟨hr, hf⟩, hB'⟩ := hB
    obtain ⟨v, hy, hK⟩ := h
    exact wpAnyT_first h0 (Region.noSelect_spec hs) l.length listed a (Region.free_spec h0 hf) (by simpa using hr) hy
      (wpAnyT_lex hs l (k + 1) _ _ (fun j => by have := hl (j + 1); simpa [Nat.add_assoc, Nat.add_comm 1 j] using this) hB' hK)

/-- what is asked once all have come up -/
def Ends (C : Array Bool → World → Prop) (Q : Exit → Act → World → Prop) (a : Act) : Prop := ∀ S w', (∀ i, S.getD i true = true) → C S w' → Q .normal a w'
theorem wpSt_nil {Q : Act → Prop} {k : Nat} {a : Act} (h : Q a) : wpSt P md ops C Q k [] a := h
/-- ONE WALK OF THE TEXT'S ORDER SERVES EVERY ORDER -/
theorem wp_region {id : Nat} {Q : Exit → Act → World → Prop} {a : Act} {w : World} {l : List Oper} (hm : P.follows .mixedOrders = true) (hB : Region.lexB .any l.toArray = true)
    (C : Array Bool → World → Prop) (hC : C (Array.replicate l.length false) w.drew)
    (h : wpSt P .any l.toArray C (Ends C Q) 0 l a) : (Code.region id l.toArray true).wp P Q a w := by
  simp only [Region.lexB, Bool.and_eq_true] at hB
  refine wp_region_any hm (wpAny_of (C := C) (Q := Ends C Q) (fun S _ w' hS hw' h => h S w' hS hw') _ _ _ _ (by simp) (by simpa using Fit.start (md := .any) (ops := l.toArray)) (by simpa using hC) ?_)
  have := wpAnyT_lex (C := C) (md := .any) hB.1 l 0 (Array.replicate l.length false) a (by simp) (by simpa using hB.2) h
  simpa using this

/-- operations that only read, and are no call of a Go function -/
def plain (o : Oper) : Bool := match o.op with
  | .move _ | .assign _ | .load .. | .nilCheck _ | .binOp .. | .unOp .. | .convert .. | .slice .. | .fieldAddr .. | .field .. | .indexAddr .. | .index .. | .build .. | .extract .. | .pick .. => true
  | .call c => match c.callee with
    | .builtin .len | .builtin .cap => true
    | _ => false
  | _ => false
theorem value_of {s : Sem Value} {w w' : World} {n : Next} (h : (do pure (Next.value (← s)) : Sem Next).run P w = .ok n w') : ∃ v, n = .value v := by
  simp only [Sem.run_bind] at h
  cases hr : s.run P w with
  | ok v w1 => rw [hr] at h; simp [Result.andThen] at h; exact ⟨v, h.1.symm⟩
  | halt x w1 => rw [hr] at h; simp [Result.andThen] at h
theorem rp_not {w w' : World} {n : Next} (h : (runtimePanic .nilDeref : Sem Next).run P w = .ok n w') : False := by
  have h' : (Result.halt (Halt.panic (Value.iface P.rt.errorString (strVal "invalid memory address or nil pointer dereference"))) w : Result Next) = Result.ok n w' := h
  cases h'
theorem plain_not {ρ : Operand → Value} {o : Oper} (hp : plain o = true) {w w' : World} {f : FuncId} {args : Array Value} (h : (execOp ρ o).run P w = .ok (.enter f args) w') : False := by
  unfold plain at hp
  unfold execOp at h
  cases ho : o.op <;> rw [ho] at hp h <;> simp only at hp h <;> try (cases hp; done)
  case nilCheck x =>
    split at h
    · exact rp_not h
    · exact rp_not h
    · exact rp_not h
    · split at h
      · exact rp_not h
      · rename_i nm first captured _ _ t v _
        simp only [Sem.run_bind] at h
        cases hr : Sem.run P program w with
        | ok p w1 =>
          rw [hr] at h; simp only [Result.andThen] at h
          cases hr2 : (nilAhead (p.types.size + Made.depth) t v nm).run P w1 with
          | ok b w2 =>
            rw [hr2] at h; simp only [Result.andThen] at h
            split at h
            · have h' : (Result.halt _ w2 : Result Next) = Result.ok (Next.enter f args) w' := h
              cases h'
            · simp [Result.andThen] at h
          | halt x w2 => rw [hr2] at h; simp [Result.andThen] at h
        | halt x w1 => rw [hr] at h; simp [Result.andThen] at h
      · simp at h
    · simp at h
  case call c =>
    cases hc : c.callee with
    | builtin b =>
      rw [hc] at hp
      simp only [resolve, hc] at h
      cases b <;> simp only at hp <;> try (cases hp; done)
      all_goals
        simp only [Sem.run_bind, Sem.run_pure, Result.andThen, invoke, builtin] at h
        obtain ⟨v, hv⟩ := value_of (P := P) (by simpa only [Sem.run_bind, Sem.run_pure, Result.andThen] using h)
        cases hv
    | _ => rw [hc] at hp; simp at hp
  case pick c a b =>
    simp only [Sem.run_bind] at h
    cases hr : (asBool (ρ c) : Sem Bool).run P w with
    | ok v w1 => rw [hr] at h; simp [Result.andThen] at h
    | halt x w1 => rw [hr] at h; simp [Result.andThen] at h
  all_goals first
    | (obtain ⟨v, hv⟩ := value_of h; cases hv; done)
    | (simp at h; done)
    | skip

/-- operations that only read, by the quiet walk; U: the worlds in which they come up -/
theorem wpSt_plain {Q : Act → Prop} {l2 : List Oper} (U : World → Prop) : ∀ (l1 : List Oper) (k : Nat) (a : Act), l1.all plain = true →
    (∀ i, k ≤ i → i < k + l1.length → ∀ S w, Fit md ops S → i ∈ Region.ready md ops S → C S w → U w ∧ C (S.setIfInBounds i true) w) →
    wpQuiet P ops U (fun a' => wpSt P md ops C Q (k + l1.length) l2 a') l1 a → wpSt P md ops C Q k (l1 ++ l2) a
  | [], k, a, _, _, h => h
  | o :: l1, k, a, hp, hC, h => by
    simp only [List.all_cons, Bool.and_eq_true] at hp
    have hk : ∀ a', wpQuiet P ops U (fun a' => wpSt P md ops C Q (k + (o :: l1).length) l2 a') l1 a' → wpSt P md ops C Q (k + 1) (l1 ++ l2) a' := fun a' h' =>
      wpSt_plain U l1 (k + 1) a' hp.2 (fun i h1 h2 => hC i (by omega) (by simp; omega)) (by
        have : k + 1 + l1.length = k + (o :: l1).length := by simp; omega
        rw [this]; exact h')
    unfold wpQuiet at h
    split at h
    · rename_i hw
      obtain ⟨v, h1, h2⟩ := h
      refine ⟨v, .inl ⟨hw, fun S w hF hi hS => ?_⟩, hk _ h2⟩
      obtain ⟨hU, hC'⟩ := hC k (Nat.le_refl _) (by simp) S w hF hi hS
      have h3 := h1 w hU
      unfold Oper.quietAt at h3
      unfold at_
      generalize hr : (execOp a.eval o).run P w = r at h3
      cases r with
      | ok n w' =>
        cases n <;> simp only [Oper.quietUpon] at h3 <;> simp only [upon]
        case value u => obtain ⟨rfl, rfl⟩ := h3; exact ⟨rfl, hC'⟩
        case skip => obtain ⟨rfl, rfl⟩ := h3; exact ⟨rfl, hC'⟩
        case enter f args => exact (plain_not hp.1 hr).elim
      | halt x w' => simp only [Oper.quietUpon] at h3
    · rename_i hw
      exact ⟨undef, .inr ⟨by simpa using hw, rfl, fun S w hF hi hS => (hC k (Nat.le_refl _) (by simp) S w hF hi hS).2⟩, hk _ h⟩
/-- the first n operations only read -/
theorem wpSt_reads {Q : Act → Prop} (n : Nat) (U : World → Prop) {l : List Oper} {k : Nat} {a : Act} (hp : (l.take n).all plain = true)
    (hC : ∀ i, k ≤ i → i < k + n → ∀ S w, Fit md ops S → i ∈ Region.ready md ops S → C S w → U w ∧ C (S.setIfInBounds i true) w)
    (h : wpQuiet P ops U (fun a' => wpSt P md ops C Q (k + (l.take n).length) (l.drop n) a') (l.take n) a) : wpSt P md ops C Q k l a := by
  have := wpSt_plain (P := P) (md := md) (C := C) (Q := Q) (l2 := l.drop n) U (l.take n) k a hp (fun i h1 h2 => hC i h1 (by rw [List.length_take] at h2; omega)) h
  rwa [List.take_append_drop] at this
/-- one operation that does something -/
theorem wpSt_do {Q : Act → Prop} {o : Oper} {l : List Oper} {k : Nat} {a : Act} (v : Value) (hw : Region.wanted o (yielded ops a.tmps) = true)
    (h : ∀ S w, Fit md ops S → k ∈ Region.ready md ops S → C S w → at_ P o a (C (S.setIfInBounds k true)) w v) (hK : wpSt P md ops C Q (k + 1) l (a.put o.dst v)) : wpSt P md ops C Q k (o :: l) a :=
  ⟨v, .inl ⟨hw, h⟩, hK⟩
/-- what has come up ahead -/
theorem came {i j : Nat} {S : Array Bool} (hi : i ∈ Region.ready md ops S) (h : Region.waitsFor md ops i j = true) : S.getD j true = true := by
  obtain ⟨o, ho, e, he, hb, hon⟩ := Region.waitsFor_spec h
  obtain ⟨_, o', ho', hall⟩ := mem_ready.1 hi
  obtain rfl : o = o' := Option.some.inj (ho.symm.trans ho')
  have := hall e he hb
  rw [hon] at this
  rcases Nat.lt_or_ge j S.size with h' | h'
  · simp [h'] at this ⊢; exact this
  · simp [Array.getElem?_eq_none h'] at this
theorem getD_set_self {S : Array Bool} {i : Nat} (h : S.getD i true = false) : (S.setIfInBounds i true).getD i true = true := by
  rcases Nat.lt_or_ge i S.size with h' | h'
  · simp [h']
  · simp [Array.getElem?_eq_none h'] at h
theorem getD_rep {n k : Nat} (h : k < n) : (Array.replicate n false).getD k true = false := by simp [h]

/-- the class with one operation that does something: K -/
def one (K : Nat) (D : Bool → World → Prop) (S : Array Bool) (w : World) : Prop := D (S.getD K true) w
section
variable {K : Nat} {D : Bool → World → Prop}
/-- all of k .. m - 1 lead to K: they come up ahead of it -/
theorem one_before {k m : Nat} (h : (List.range m).all (fun i => decide (i < k) || (decide (i ≠ K) && leads md ops 8 i K)) = true) :
    ∀ i, k ≤ i → i < m → ∀ S w, Fit md ops S → i ∈ Region.ready md ops S → one K D S w → D false w ∧ one K D (S.setIfInBounds i true) w := by
  intro i h1 h2 S w hF hi hS
  have := List.all_eq_true.1 h i (List.mem_range.2 h2)
  simp only [Bool.or_eq_true, decide_eq_true_eq, Bool.and_eq_true] at this
  rcases this with h3 | ⟨h3, h4⟩
  · omega
  · have hn := hF.before 8 i (mem_ready.1 hi).1 h4
    refine ⟨by unfold one at hS; rwa [hn] at hS, ?_⟩
    unfold one at *
    rwa [getD_set_ne true h3]
/-- all of k .. m - 1 wait for K -/
theorem one_after {k m : Nat} (h : (List.range m).all (fun i => decide (i < k) || (decide (i ≠ K) && Region.waitsFor md ops i K)) = true) :
    ∀ i, k ≤ i → i < m → ∀ S w, Fit md ops S → i ∈ Region.ready md ops S → one K D S w → D true w ∧ one K D (S.setIfInBounds i true) w := by
  intro i h1 h2 S w hF hi hS
  have := List.all_eq_true.1 h i (List.mem_range.2 h2)
  simp only [Bool.or_eq_true, decide_eq_true_eq, Bool.and_eq_true] at this
  rcases this with h3 | ⟨h3, h4⟩
  · omega
  · have hn := came hi h4
    refine ⟨by unfold one at hS; rwa [hn] at hS, ?_⟩
    unfold one at *
    rwa [getD_set_ne true h3]
theorem one_any {k m : Nat} (h : K < k ∨ m ≤ K) : ∀ i, k ≤ i → i < m → ∀ S w, Fit md ops S → i ∈ Region.ready md ops S → one K D S w → True ∧ one K D (S.setIfInBounds i true) w := by
  intro i h1 h2 S w _ _ hS
  refine ⟨trivial, ?_⟩
  unfold one at *
  rwa [getD_set_ne true (by omega)]
theorem one_do {o : Oper} {a : Act} {v : Value} (h : ∀ w, D false w → at_ P o a (D true) w v) : ∀ S w, Fit md ops S → K ∈ Region.ready md ops S → one K D S w → at_ P o a (one K D (S.setIfInBounds K true)) w v := by
  intro S w _ hi hS
  have hun := (mem_ready.1 hi).1
  unfold one at *
  rw [hun] at hS
  rw [getD_set_self hun]
  exact h w hS
/-- operation i, which comes up ahead of K -/
theorem one_step {i : Nat} (hl : (decide (i ≠ K) && leads md ops 8 i K) = true) {o : Oper} {a : Act} {v : Value} (h : ∀ w, D false w → at_ P o a (D false) w v) :
    ∀ S w, Fit md ops S → i ∈ Region.ready md ops S → one K D S w → at_ P o a (one K D (S.setIfInBounds i true)) w v := by
  simp only [Bool.and_eq_true, decide_eq_true_eq] at hl
  intro S w hF hi hS
  have hn := hF.before 8 i (mem_ready.1 hi).1 hl.2
  unfold one at *
  rw [getD_set_ne true hl.1, hn]
  rw [hn] at hS
  exact h w hS
theorem one_start {n : Nat} {w : World} (hk : K < n) (h : D false w) : one K D (Array.replicate n false) w := by
  unfold one; rw [getD_rep hk]; exact h
theorem one_end {Q : Exit → Act → World → Prop} {a : Act} (h : ∀ w, D true w → Q .normal a w) : Ends (one K D) Q a := by
  intro S w hS hD
  unfold one at hD
  rw [hS] at hD
  exact h w hD
end
/-- the class with two such operations -/
def two (K1 K2 : Nat) (D : Bool → Bool → World → Prop) (S : Array Bool) (w : World) : Prop := D (S.getD K1 true) (S.getD K2 true) w
section
variable {K1 K2 : Nat} {D : Bool → Bool → World → Prop}
/-- all of k .. m - 1 come up ahead of both -/
theorem two_before {k m : Nat} (h : (List.range m).all (fun i => decide (i < k) || (decide (i ≠ K1) && decide (i ≠ K2) && leads md ops 8 i K1 && leads md ops 8 i K2)) = true) :
    ∀ i, k ≤ i → i < m → ∀ S w, Fit md ops S → i ∈ Region.ready md ops S → two K1 K2 D S w → D false false w ∧ two K1 K2 D (S.setIfInBounds i true) w := by
  intro i h1 h2 S w hF hi hS
  have := List.all_eq_true.1 h i (List.mem_range.2 h2)
  simp only [Bool.or_eq_true, decide_eq_true_eq, Bool.and_eq_true] at this
  rcases this with h3 | ⟨⟨⟨h3, h3'⟩, h4⟩, h5⟩
  · omega
  · have hn := hF.before 8 i (mem_ready.1 hi).1 h4
    have hn' := hF.before 8 i (mem_ready.1 hi).1 h5
    refine ⟨by unfold two at hS; rwa [hn, hn'] at hS, ?_⟩
    unfold two at *
    rwa [getD_set_ne true h3, getD_set_ne true h3']
theorem two_any {k m : Nat} (h : K1 < k ∨ m ≤ K1) (h' : K2 < k ∨ m ≤ K2) : ∀ i, k ≤ i → i < m → ∀ S w, Fit md ops S → i ∈ Region.ready md ops S → two K1 K2 D S w → True ∧ two K1 K2 D (S.setIfInBounds i true) w := by
  intro i h1 h2 S w _ _ hS
  refine ⟨trivial, ?_⟩
  unfold two at *
  rwa [getD_set_ne true (by omega), getD_set_ne true (by omega)]
theorem two_do1 {o : Oper} {a : Act} {v : Value} (hne : K1 ≠ K2) (h : ∀ b w, D false b w → at_ P o a (D true b) w v) : ∀ S w, Fit md ops S → K1 ∈ Region.ready md ops S → two K1 K2 D S w → at_ P o a (two K1 K2 D (S.setIfInBounds K1 true)) w v := by
  intro S w _ hi hS
  have hun := (mem_ready.1 hi).1
  unfold two at *
  rw [hun] at hS
  rw [getD_set_self hun, getD_set_ne true hne]
  exact h _ w hS
theorem two_do2 {o : Oper} {a : Act} {v : Value} (hne : K1 ≠ K2) (h : ∀ b w, D b false w → at_ P o a (D b true) w v) : ∀ S w, Fit md ops S → K2 ∈ Region.ready md ops S → two K1 K2 D S w → at_ P o a (two K1 K2 D (S.setIfInBounds K2 true)) w v := by
  intro S w _ hi hS
  have hun := (mem_ready.1 hi).1
  unfold two at *
  rw [hun] at hS
  rw [getD_set_self hun, getD_set_ne true (Ne.symm hne)]
  exact h _ w hS
/-- the first leads to the second -/
theorem two_first {o : Oper} {a : Act} {v : Value} (hne : K1 ≠ K2) (hwt : leads md ops 8 K1 K2 = true) (h : ∀ w, D false false w → at_ P o a (D true false) w v) : ∀ S w, Fit md ops S → K1 ∈ Region.ready md ops S → two K1 K2 D S w → at_ P o a (two K1 K2 D (S.setIfInBounds K1 true)) w v := by
  intro S w hF hi hS
  have hun := (mem_ready.1 hi).1
  have hn := hF.before 8 K1 hun hwt
  unfold two at *
  rw [hun, hn] at hS
  rw [getD_set_self hun, getD_set_ne true hne, hn]
  exact h w hS
theorem two_then {o : Oper} {a : Act} {v : Value} (hne : K1 ≠ K2) (hwt : Region.waitsFor md ops K2 K1 = true) (h : ∀ w, D true false w → at_ P o a (D true true) w v) : ∀ S w, Fit md ops S → K2 ∈ Region.ready md ops S → two K1 K2 D S w → at_ P o a (two K1 K2 D (S.setIfInBounds K2 true)) w v := by
  intro S w _ hi hS
  have hun := (mem_ready.1 hi).1
  unfold two at *
  rw [hun, came hi hwt] at hS
  rw [getD_set_self hun, getD_set_ne true (Ne.symm hne), came hi hwt]
  exact h w hS
theorem two_start {n : Nat} {w : World} (h1 : K1 < n) (h2 : K2 < n) (h : D false false w) : two K1 K2 D (Array.replicate n false) w := by
  unfold two; rw [getD_rep h1, getD_rep h2]; exact h
theorem two_end {Q : Exit → Act → World → Prop} {a : Act} (h : ∀ w, D true true w → Q .normal a w) : Ends (two K1 K2 D) Q a := by
  intro S w hS hD
  unfold two at hD
  rw [hS, hS] at hD
  exact h w hD
end
end
end Stage
end

section
open Go.RowKit

theorem splice_cons {α : Type} (L : List α) (o : Nat) (x : α) (l : List α) (h : o + (l.length + 1) ≤ L.length) : splice (L.set o x) (o + 1) l = splice L o (x :: l) := by
  unfold splice
  rw [List.take_set, List.drop_set_of_lt (by omega), List.length_cons, show o + 1 + l.length = o + (l.length + 1) by omega]
  rw [List.take_succ_eq_append_getElem (by omega), List.set_append_right (h := by simp; omega)]
  simp [show o - min o L.length = 0 by omega]
theorem foldl_cells (vs : List Value) : ∀ (k off : Nat) (cs : Array Value), off + k + vs.length ≤ cs.size →
    ((vs.zipIdx k).foldl (fun cs (x : Value × Nat) => cs.setIfInBounds (off + x.2) x.1) cs).toList = splice cs.toList (off + k) vs := by
  induction vs with
  | nil => intro k off cs h; simp [splice]
  | cons v vs ih =>
    intro k off cs h
    simp only [List.length_cons] at h
    rw [List.zipIdx_cons, List.foldl_cons, ih (k + 1) off _ (by simp; omega), Array.toList_setIfInBounds]
    exact splice_cons cs.toList (off + k) v vs (by simp; omega)
theorem fill_step (place : Nat → Option (Nat × Nat)) (cells : Array Value) (i : Nat) (v : Value) (rest : List (Nat × Value)) (off size : Nat) (hp : place i = some (off, size)) (hs : v.cells.size = size) (hf : off + size ≤ cells.size) :
    Instr.fill place cells ((i, v) :: rest) = Instr.fill place (splice cells.toList off v.cells.toList).toArray rest := by
  rw [Instr.fill, hp]
  simp only
  rw [if_neg (by simp [hs]; omega)]
  congr 1
  apply Array.ext'
  have := foldl_cells v.cells.toList 0 off cells (by simp [hs]; omega)
  simp only [Nat.add_zero] at this
  rw [← this, show v.cells.toList.zipIdx = v.cells.zipIdx.toList by simp, Array.foldl_toList]

theorem add_at (g off j : Nat) : (⟨g, off, none⟩ : Addr).add j = ⟨g, off + j, none⟩ := by
  cases j with
  | zero => rfl
  | succ j => simp [Addr.add]
section
variable {P : Program} {C : World → Prop} {w : World} {o : Oper} {a : Act}
theorem run_load_part (g off n : Nat) (ty : TypeId) (d : TypeDesc) (cs : List Value) (hc : ∀ j v, cs[j]? = some v → w.cell? ((⟨g, off, none⟩ : Addr).add j) = some v)
    (hu : P.underlying ty = some d) (hd : (match d with | .struct _ | .array _ _ => true | _ => false) = true) (hi : (P.info? ty).map (·.size) = some cs.length) :
    (loadVar ty ⟨g, off, none⟩).run P w = .ok (.agg cs.toArray) w := by
  have hl : (loadCells ⟨g, off, none⟩ cs.length).run P w = .ok cs.toArray w := run_loadCells_list (P := P) w ⟨g, off, none⟩ cs hc
  cases hq : P.info? ty with
  | none => simp [hq] at hi
  | some i =>
    have hs : i.size = cs.length := by simpa [hq] using hi
    have hagg : (isAgg ty).run P w = .ok true w := by
      unfold isAgg
      rw [Sem.run_bind, run_underlying hu w]
      cases d <;> simp_all
    simp [loadVar, Sem.run_bind, hagg, sizeOf, typeInfo, hq, hs, hl]
theorem run_loadAt_part (g off : Nat) (ty : TypeId) (d : TypeDesc) (cs : List Value) (hc : ∀ j v, cs[j]? = some v → w.cell? ((⟨g, off, none⟩ : Addr).add j) = some v)
    (hu : P.underlying ty = some d) (hd : (match d with | .struct _ | .array _ _ => true | _ => false) = true) (hi : (P.info? ty).map (·.size) = some cs.length) :
    (Instr.loadAt ty (.pointer (some ⟨g, off, none⟩))).run P w = .ok (.agg cs.toArray) w := by
  simp only [Instr.loadAt, Instr.sureAddr, Sem.run_bind, Sem.run_pure, Result.andThen_ok, run_load_part g off cs.length ty d cs hc hu hd hi]
theorem at_load_part (ty : TypeId) (x : Operand) (ho : o.op = .load ty x) (g off : Nat) (hx : a.eval x = .pointer (some ⟨g, off, none⟩)) (d : TypeDesc) (cs : List Value)
    (hc : ∀ j v, cs[j]? = some v → w.cell? ((⟨g, off, none⟩ : Addr).add j) = some v)
    (hu : P.underlying ty = some d) (hd : (match d with | .struct _ | .array _ _ => true | _ => false) = true) (hi : (P.info? ty).map (·.size) = some cs.length) (h : C w) : Stage.at_ P o a C w (.agg cs.toArray) := by
  unfold Stage.at_ execOp
  simp only [ho, hx, Instr.loadAt, Instr.sureAddr, Sem.run_bind, Sem.run_pure, Result.andThen_ok, run_load_part g off cs.length ty d cs hc hu hd hi, Stage.upon]
  exact ⟨trivial, h⟩
theorem at_build (t : TypeId) (parts : Array (Nat × Operand)) (ho : o.op = .build t parts) (cells : Array Value) (vs : List (Nat × Value)) (hv : (parts.toList.map fun (i, x) => (i, a.eval x)) = vs) (hb : P.built t vs = some cells) (h : C w) : Stage.at_ P o a C w (.agg cells) := by
  subst hv
  have hr := run_build (P := P) w t (parts.map fun (i, x) => (i, a.eval x)) cells (by rw [Array.toList_map]; exact hb)
  unfold Stage.at_ execOp
  simp only [ho, Sem.run_bind, hr, Result.andThen_ok, Sem.run_pure, Stage.upon]
  exact ⟨trivial, h⟩
theorem at_box (t : TypeId) (x : Operand) (ho : o.op = .box t x) (cells : Array Value) (hx : (a.eval x).cells = cells) (n : Nat) (hn : w.heap.size = n) (h : C (w.alloc (.cells cells t))) : Stage.at_ P o a C w (.pointer (some ⟨n, 0, none⟩)) := by
  subst hn
  unfold Stage.at_ execOp
  simp only [ho]
  have hr : (Instr.box t (a.eval x)).run P w = .ok (.pointer (some ⟨w.heap.size, 0, none⟩)) (w.alloc (.cells cells t)) := by
    rw [← hx]
    simp [Instr.box, newVar, newRow, newObj, Sem.run_bind]
    rfl
  simp only [Sem.run_bind, hr, Result.andThen_ok, Sem.run_pure, Stage.upon]
  exact ⟨trivial, h⟩
end
end
end Go.Proofs.Ytkhmefbmffpkcaa
