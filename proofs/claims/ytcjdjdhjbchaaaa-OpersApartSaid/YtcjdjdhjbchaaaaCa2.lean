/- Stage, Parts, Free, Guard, RoomOps5 -/
import Derived.Deep.Quiet
import Derived.StillTail
import Derived.BigQuiet
import Derived.Test.YtcjdjdhjbchaaaaCa1
import Derived.Laws.CopyOwn
import Derived.Laws.Tables
namespace Go.Proofs.Ytcjdjdhjbchaaaa
set_option linter.unusedVariables false
section
namespace Stage
section
variable {P : Program} {ops : Array Oper} {md : Region.Mode} {C : Array Bool → World → Prop}

/-- carried out in w it yields v, in a world of the class -/
def upon (P : Program) (C : World → Prop) (v : Value) : Result Next → Prop
  | .ok (.value u) w' => u = v ∧ C w'
  | .ok .skip w' => v = undef ∧ C w'
  | .ok (.enter f args) w' => Calls P f args w' (fun e w'' => e = .returned v ∧ C w'')
  | _ => False
def at_ (P : Program) (o : Oper) (a : Act) (C : World → Prop) (w : World) (v : Value) : Prop := upon P C v ((execOp a.eval o).run P w)
/-- what holds of all that has come up, in whatever order -/
structure Fit (md : Region.Mode) (ops : Array Oper) (S : Array Bool) : Prop where
  size : S.size = ops.size
  closed : ∀ (j : Nat) (oj : Oper), ops[j]? = some oj → S.getD j false = true → ∀ e ∈ oj.after, Region.binds md e = true → S.getD e.on false = true
theorem Fit.start : Fit md ops (Array.replicate ops.size false) := ⟨by simp, fun j oj hj h => by rw [getD_replicate_false] at h; cases h⟩
theorem Fit.set {S : Array Bool} {i : Nat} (h : Fit md ops S) (hi : i ∈ Region.ready md ops S) : Fit md ops (S.setIfInBounds i true) := by
  obtain ⟨_, oi, hoi, hall⟩ := mem_ready.1 hi
  refine ⟨by simp [h.size], fun j oj hj hl e he hb => ?_⟩
  by_cases hij : i = j
  · subst hij
    obtain rfl : oj = oi := Option.some.inj (hj.symm.trans hoi)
    exact getD_set_true (hall e he hb)
  · rw [getD_set_ne false hij] at hl
    exact getD_set_true (h.closed j oj hj hl e he hb)
/-- operation K waits for i, straight or by others -/
def leads (md : Region.Mode) (ops : Array Oper) : Nat → Nat → Nat → Bool
  | 0, _, _ => false
  | n + 1, i, K => Region.waitsFor md ops K i || (List.range ops.size).any fun j => Region.waitsFor md ops j i && leads md ops n j K
theorem in_false {S : Array Bool} {i : Nat} (hi : i < S.size) : S.getD i true = false ↔ S.getD i false = false := by simp [hi]
theorem Fit.not {S : Array Bool} (h : Fit md ops S) {i j : Nat} (hi : S.getD i true = false) (hw : Region.waitsFor md ops j i = true) : S.getD j true = false := by
  obtain ⟨o, ho, e, he, hb, hon⟩ := Region.waitsFor_spec hw
  have hj : j < S.size := by rw [h.size]; exact (Array.getElem?_eq_some_iff.1 ho).1
  cases hx : S.getD j true with
  | false => rfl
  | true =>
    have hx' : S.getD j false = true := by simp [hj] at hx ⊢; exact hx
    have := h.closed j o ho hx' e he hb
    rw [hon, getD_both hi] at this; cases this
theorem Fit.before {S : Array Bool} (h : Fit md ops S) {K : Nat} : ∀ (n i : Nat), S.getD i true = false → leads md ops n i K = true → S.getD K true = false := by
  intro n
  induction n with
  | zero => intro i _ hl; cases hl
  | succ n ih =>
    intro i hi hl
    simp only [leads, Bool.or_eq_true, List.any_eq_true, Bool.and_eq_true] at hl
    rcases hl with hl | ⟨j, _, hw, hl⟩
    · exact h.not hi hl
    · exact ih j (h.not hi hw) hl
/-- whenever it comes up -/
def Yields (P : Program) (md : Region.Mode) (ops : Array Oper) (C : Array Bool → World → Prop) (i : Nat) (o : Oper) (v : Value) (a : Act) : Prop :=
  (Region.wanted o (yielded ops a.tmps) = true ∧ ∀ S w, Fit md ops S → i ∈ Region.ready md ops S → C S w → at_ P o a (C (S.setIfInBounds i true)) w v) ∨
  (Region.wanted o (yielded ops a.tmps) = false ∧ v = undef ∧ ∀ S w, Fit md ops S → i ∈ Region.ready md ops S → C S w → C (S.setIfInBounds i true) w)
def sOp (P : Program) (md : Region.Mode) (ops : Array Oper) (C : Array Bool → World → Prop) (i : Nat) (K : Act → Prop) (a : Act) : Prop :=
  ∃ o v, ops[i]? = some o ∧ Yields P md ops C i o v a ∧ K (a.put o.dst v)
theorem sOp_mono {i : Nat} {a : Act} {K K' : Act → Prop} (h : ∀ a, K a → K' a) (hh : sOp P md ops C i K a) : sOp P md ops C i K' a := by
  obtain ⟨o, v, h1, h2, h3⟩ := hh
  exact ⟨o, v, h1, h2, h _ h3⟩
def wpAnyT (P : Program) (md : Region.Mode) (ops : Array Oper) (C : Array Bool → World → Prop) (Q : Act → Prop) : Nat → Array Bool → Act → Prop
  | 0, listed, a => Region.ready md ops listed = [] ∧ Q a
  | fuel + 1, listed, a => Region.ready md ops listed ≠ [] ∧ ∀ i ∈ Region.ready md ops listed, sOp P md ops C i (wpAnyT P md ops C Q fuel (listed.setIfInBounds i true)) a

theorem count_set {l : List Bool} : ∀ {i : Nat}, l.getD i true = false → (l.set i true).count false + 1 = l.count false := by
  induction l with
  | nil => intro i h; simp at h
  | cons b l ih =>
    intro i h
    cases i with
    | zero => simp at h; subst h; simp
    | succ i =>
      have := ih (i := i) (by simpa using h)
      simp only [List.set_cons_succ, List.count_cons]
      omega
theorem all_of_count {l : List Bool} (h : l.count false = 0) (i : Nat) : l.getD i true = true := by
  cases hb : l.getD i true with
  | true => rfl
  | false =>
    exfalso
    have hm : false ∈ l := by
      rw [List.getD_eq_getElem?_getD] at hb
      cases hx : l[i]? with
      | none => simp [hx] at hb
      | some x => simp [hx] at hb; subst hb; exact List.mem_of_getElem? hx
    have := List.count_pos_iff.2 hm
    omega
theorem getD_toList (S : Array Bool) (i : Nat) : S.getD i true = S.toList.getD i true := by
  simp [List.getD_eq_getElem?_getD]

theorem wpAny_of {Q : Act → Prop} {Q' : Exit → Act → World → Prop} (hQ : ∀ S a w, (∀ i, S.getD i true = true) → C S w → Q a → Q' .normal a w) : ∀ (fuel : Nat) (listed : Array Bool) (a : Act) (w : World), listed.toList.count false = fuel → Fit md ops listed → C listed w →
    wpAnyT P md ops C Q fuel listed a → wpAny P md ops Q' fuel listed a w
  | 0, listed, a, w, hn, _, hC, h => ⟨h.1, hQ _ _ _ (fun i => by rw [getD_toList]; exact all_of_count hn i) hC h.2⟩
  | fuel + 1, listed, a, w, hn, hF, hC, h => by
    refine ⟨fun h0 => absurd h0 h.1, fun i hi => ?_⟩
    obtain ⟨o, v, ho, hy, hK⟩ := h.2 i hi
    have hun := (mem_ready.1 hi).1
    have hc : (listed.setIfInBounds i true).toList.count false = fuel := by
      rw [Array.toList_setIfInBounds]
      have := count_set (l := listed.toList) (i := i) (by rw [← getD_toList]; exact hun)
      omega
    unfold wpOp
    simp only [ho]
    rcases hy with ⟨hw, hy⟩ | ⟨hw, rfl, hy⟩
    · rw [if_pos hw]
      refine .inl ?_
      have h1 := hy listed w hF hi hC
      unfold at_ at h1
      unfold Oper.wp
      generalize (execOp a.eval o).run P w = r at h1
      cases r with
      | ok n w' =>
        cases n <;> simp only [upon] at h1 <;> simp only [Oper.upon]
        case value u => obtain ⟨rfl, h2⟩ := h1; exact wpAny_of hQ fuel _ _ _ hc (hF.set hi) h2 hK
        case skip => obtain ⟨rfl, h2⟩ := h1; exact wpAny_of hQ fuel _ _ _ hc (hF.set hi) h2 hK
        case enter f args => exact h1.mono fun e w'' ⟨he, h2⟩ => by subst he; exact wpAny_of hQ fuel _ _ _ hc (hF.set hi) h2 hK
      | halt x w' => simp only [upon] at h1
    · rw [if_neg (by rw [hw]; exact Bool.false_ne_true)]
      exact wpAny_of hQ fuel _ _ _ hc (hF.set hi) (hy _ _ hF hi hC) hK

theorem Yields.of_same {i : Nat} {o : Oper} {v : Value} {a a' : Act} (hy : Yields P md ops C i o v a) (he : execOp a'.eval o = execOp a.eval o)
    (hw : Region.wanted o (yielded ops a'.tmps) = Region.wanted o (yielded ops a.tmps)) : Yields P md ops C i o v a' := by
  unfold Yields at_ at *
  rw [he, hw]
  exact hy

theorem sOp_put {i j : Nat} {oi oj : Oper} {v : Value} (hj : ops[j]? = some oj) (hap : oi.apart ops oj = true)
    (hsi : ∀ cs b, oi.op ≠ .select cs b) (hsj : ∀ cs b, oj.op ≠ .select cs b) {K : Act → Prop} {a : Act}
    (hy : Yields P md ops C i oi v a) (h : sOp P md ops C j K (a.put oi.dst v)) :
    sOp P md ops C j (fun a' => Yields P md ops C i oi v a' ∧ K (a'.put oi.dst v)) a := by
  obtain ⟨h1, h2, h3⟩ := Oper.apart_spec hap
  obtain ⟨o, u, ho, hu, hK⟩ := h
  obtain rfl : o = oj := Option.some.inj (ho.symm.trans hj)
  refine ⟨o, u, hj, hu.of_same (execOp_put o hsj a oi.dst v h1).symm (wanted_put o a oi.dst v h1).symm, ?_, ?_⟩
  · exact hy.of_same (execOp_put oi hsi a o.dst u h3) (wanted_put oi a o.dst u h3)
  · rw [← Act.put_comm a v u h2]; exact hK

theorem wpAnyT_first {Q : Act → Prop} {i : Nat} {oi : Oper} {v : Value} (hi : ops[i]? = some oi) (hsel : ∀ (j : Nat) (o : Oper) cs b, ops[j]? = some o → o.op ≠ .select cs b) :
    ∀ (fuel : Nat) (listed : Array Bool) (a : Act),
      (∀ j oj, ops[j]? = some oj → j ≠ i → listed.getD j true = false → (∀ e ∈ oj.after, Region.binds md e = true → e.on ≠ i) → oi.apart ops oj = true) →
      i ∈ Region.ready md ops listed → Yields P md ops C i oi v a →
      wpAnyT P md ops C Q fuel (listed.setIfInBounds i true) (a.put oi.dst v) → wpAnyT P md ops C Q (fuel + 1) listed a := by
  intro fuel
  induction fuel with
  | zero =>
    intro listed a _ hr hy H
    refine ⟨fun h => (by rw [h] at hr; cases hr), fun j hj => ?_⟩
    by_cases hji : j = i
    · subst hji; exact ⟨oi, v, hi, hy, H⟩
    · have := ready_mono hj hji
      rw [H.1] at this
      cases this
  | succ fuel ih =>
    intro listed a hfree hr hy H
    refine ⟨fun h => (by rw [h] at hr; cases hr), fun j hj => ?_⟩
    by_cases hji : j = i
    · subst hji; exact ⟨oi, v, hi, hy, H⟩
    · have h1 := H.2 j (ready_mono hj hji)
      obtain ⟨hjun, oj, hoj, hall⟩ := mem_ready.1 hj
      have hnot : ∀ e ∈ oj.after, Region.binds md e = true → e.on ≠ i := fun e he hb heq => by
        have h1 := hall e he hb
        have h0 := (mem_ready.1 hr).1
        rw [heq] at h1
        rcases Nat.lt_or_ge i listed.size with h' | h'
        · simp [h'] at h0 h1; rw [h0] at h1; cases h1
        · simp [Array.getElem?_eq_none h'] at h1
      have h2 := sOp_put hoj (hfree j oj hoj hji hjun hnot) (fun cs b => hsel i oi cs b hi) (fun cs b => hsel j oj cs b hoj) hy h1
      have hfree' : ∀ k ok, ops[k]? = some ok → k ≠ i → (listed.setIfInBounds j true).getD k true = false →
          (∀ e ∈ ok.after, Region.binds md e = true → e.on ≠ i) → oi.apart ops ok = true := fun k ok hk hki hun hno => by
        refine hfree k ok hk hki ?_ hno
        by_cases hjk : j = k
        · subst hjk; exact hjun
        · rw [getD_set_ne true hjk] at hun; exact hun
      refine sOp_mono (fun a' h3 => ih (listed.setIfInBounds j true) a' hfree' (ready_mono hr (Ne.symm hji)) h3.1 ?_) h2
      rw [Array.setIfInBounds_comm _ _ hji]
      exact h3.2

/-- the text's order, from operation k on -/
def wpSt (P : Program) (md : Region.Mode) (ops : Array Oper) (C : Array Bool → World → Prop) (Q : Act → Prop) : Nat → List Oper → Act → Prop
  | _, [], a => Q a
  | k, o :: rest, a => ∃ v, Yields P md ops C k o v a ∧ wpSt P md ops C Q (k + 1) rest (a.put o.dst v)

theorem wpAnyT_lex {Q : Act → Prop} (hs : Region.noSelect ops = true) : ∀ (l : List Oper) (k : Nat) (listed : Array Bool) (a : Act), (∀ j, l[j]? = ops[k + j]?) →
    Region.lexFrom md ops l.length k listed = true → wpSt P md ops C Q k l a → wpAnyT P md ops C Q l.length listed a
  | [], _, _, _, _, hB, h => ⟨by simpa [Region.lexFrom] using hB, h⟩
  | o :: l, k, listed, a, hl, hB, h => by
    have h0 : ops[k]? = some o := by simpa using (hl 0).symm
    simp only [List.length_cons, Region.lexFrom, Bool.and_eq_true] at hB
    obtain ⟨⟨hr, hf⟩, hB'⟩ := hB
    obtain ⟨v, hy, hK⟩ := h
    exact wpAnyT_first h0 (Region.noSelect_spec hs) l.length listed a (Region.free_spec h0 hf) (by simpa using hr) hy
      (wpAnyT_lex hs l (k + 1) _ _ (fun j => by have := hl (j + 1); simpa [Nat.add_assoc, Nat.add_comm 1 j] using this) hB' hK)

/-- what is asked once all have come up -/
def Ends (C : Array Bool → World → Prop) (Q : Exit → Act → World → Prop) (a : Act) : Prop := ∀ S w', (∀ i, S.getD i true = true) → C S w' → Q .normal a w'
theorem wpSt_nil {Q : Act → Prop} {k : Nat} {a : Act} (h : Q a) : wpSt P md ops C Q k [] a := h
/-- ONE WALK OF THE TEXT'S ORDER SERVES EVERY ORDER -/
theorem wp_region {id : Nat} {Q : Exit → Act → World → Prop} {a : Act} {w : World} {l : List Oper} (hm : P.follows .mixedOrders = true) (hB : Region.lexB .any l.toArray = true)
    (C : Array Bool → World → Prop) (hC : C (Array.replicate l.length false) w.drew)
    (h : wpSt P .any l.toArray C (Ends C Q) 0 l a) : (Code.region id l.toArray true).wp P Q a w := by
  simp only [Region.lexB, Bool.and_eq_true] at hB
  refine wp_region_any hm (wpAny_of (C := C) (Q := Ends C Q) (fun S _ w' hS hw' h => h S w' hS hw') _ _ _ _ (by simp) (by simpa using Fit.start (md := .any) (ops := l.toArray)) (by simpa using hC) ?_)
  have := wpAnyT_lex (C := C) (md := .any) hB.1 l 0 (Array.replicate l.length false) a (by simp) (by simpa using hB.2) h
  simpa using this

/-- operations that only read, and are no call of a Go function -/
def plain (o : Oper) : Bool := match o.op with
  | .move _ | .assign _ | .load .. | .nilCheck _ | .binOp .. | .unOp .. | .convert .. | .slice .. | .fieldAddr .. | .field .. | .indexAddr .. | .index .. | .build .. | .extract .. | .pick .. => true
  | .call c => match c.callee with
    | .builtin .len | .builtin .cap => true
    | _ => false
  | _ => false
theorem value_of {s : Sem Value} {w w' : World} {n : Next} (h : (do pure (Next.value (← s)) : Sem Next).run P w = .ok n w') : ∃ v, n = .value v := by
  simp only [Sem.run_bind] at h
  cases hr : s.run P w with
  | ok v w1 => rw [hr] at h; simp [Result.andThen] at h; exact ⟨v, h.1.symm⟩
  | halt x w1 => rw [hr] at h; simp [Result.andThen] at h
theorem rp_not {w w' : World} {n : Next} (h : (runtimePanic .nilDeref : Sem Next).run P w = .ok n w') : False := by
  have h' : (Result.halt (Halt.panic (Value.iface P.rt.errorString (strVal "invalid memory address or nil pointer dereference"))) w : Result Next) = Result.ok n w' := h
  cases h'
theorem plain_not {ρ : Operand → Value} {o : Oper} (hp : plain o = true) {w w' : World} {f : FuncId} {args : Array Value} (h : (execOp ρ o).run P w = .ok (.enter f args) w') : False := by
  unfold plain at hp
  unfold execOp at h
  cases ho : o.op <;> rw [ho] at hp h <;> simp only at hp h <;> try (cases hp; done)
  case nilCheck x =>
    split at h
    · exact rp_not h
    · exact rp_not h
    · exact rp_not h
    · split at h
      · exact rp_not h
      · rename_i nm first captured _ _ t v _
        simp only [Sem.run_bind] at h
        cases hr : Sem.run P program w with
        | ok p w1 =>
          rw [hr] at h; simp only [Result.andThen] at h
          cases hr2 : (nilAhead (p.types.size + Made.depth) t v nm).run P w1 with
          | ok b w2 =>
            rw [hr2] at h; simp only [Result.andThen] at h
            split at h
            · have h' : (Result.halt _ w2 : Result Next) = Result.ok (Next.enter f args) w' := h
              cases h'
            · simp [Result.andThen] at h
          | halt x w2 => rw [hr2] at h; simp [Result.andThen] at h
        | halt x w1 => rw [hr] at h; simp [Result.andThen] at h
      · simp at h
    · simp at h
  case call c =>
    cases hc : c.callee with
    | builtin b =>
      rw [hc] at hp
      simp only [resolve, hc] at h
      cases b <;> simp only at hp <;> try (cases hp; done)
      all_goals
        simp only [Sem.run_bind, Sem.run_pure, Result.andThen, invoke, builtin] at h
        obtain ⟨v, hv⟩ := value_of (P := P) (by simpa only [Sem.run_bind, Sem.run_pure, Result.andThen] using h)
        cases hv
    | _ => rw [hc] at hp; simp at hp
  case pick c a b =>
    simp only [Sem.run_bind] at h
    cases hr : (asBool (ρ c) : Sem Bool).run P w with
    | ok v w1 => rw [hr] at h; simp [Result.andThen] at h
    | halt x w1 => rw [hr] at h; simp [Result.andThen] at h
  all_goals first
    | (obtain ⟨v, hv⟩ := value_of h; cases hv; done)
    | (simp at h; done)
    | skip

/-- operations that only read, by the quiet walk; U: the worlds in which they come up -/
theorem wpSt_plain {Q : Act → Prop} {l2 : List Oper} (U : World → Prop) : ∀ (l1 : List Oper) (k : Nat) (a : Act), l1.all plain = true →
    (∀ i, k ≤ i → i < k + l1.length → ∀ S w, Fit md ops S → i ∈ Region.ready md ops S → C S w → U w ∧ C (S.setIfInBounds i true) w) →
    wpQuiet P ops U (fun a' => wpSt P md ops C Q (k + l1.length) l2 a') l1 a → wpSt P md ops C Q k (l1 ++ l2) a
  | [], k, a, _, _, h => h
  | o :: l1, k, a, hp, hC, h => by
    simp only [List.all_cons, Bool.and_eq_true] at hp
    have hk : ∀ a', wpQuiet P ops U (fun a' => wpSt P md ops C Q (k + (o :: l1).length) l2 a') l1 a' → wpSt P md ops C Q (k + 1) (l1 ++ l2) a' := fun a' h' =>
      wpSt_plain U l1 (k + 1) a' hp.2 (fun i h1 h2 => hC i (by omega) (by simp; omega)) (by
        have : k + 1 + l1.length = k + (o :: l1).length := by simp; omega
        rw [this]; exact h')
    unfold wpQuiet at h
    split at h
    · rename_i hw
      obtain ⟨v, h1, h2⟩ := h
      refine ⟨v, .inl ⟨hw, fun S w hF hi hS => ?_⟩, hk _ h2⟩
      obtain ⟨hU, hC'⟩ := hC k (Nat.le_refl _) (by simp) S w hF hi hS
      have h3 := h1 w hU
      unfold Oper.quietAt at h3
      unfold at_
      generalize hr : (execOp a.eval o).run P w = r at h3
      cases r with
      | ok n w' =>
        cases n <;> simp only [Oper.quietUpon] at h3 <;> simp only [upon]
        case value u => obtain ⟨rfl, rfl⟩ := h3; exact ⟨rfl, hC'⟩
        case skip => obtain ⟨rfl, rfl⟩ := h3; exact ⟨rfl, hC'⟩
        case enter f args => exact (plain_not hp.1 hr).elim
      | halt x w' => simp only [Oper.quietUpon] at h3
    · rename_i hw
      exact ⟨undef, .inr ⟨by simpa using hw, rfl, fun S w hF hi hS => (hC k (Nat.le_refl _) (by simp) S w hF hi hS).2⟩, hk _ h⟩
/-- the first n operations only read -/
theorem wpSt_reads {Q : Act → Prop} (n : Nat) (U : World → Prop) {l : List Oper} {k : Nat} {a : Act} (hp : (l.take n).all plain = true)
    (hC : ∀ i, k ≤ i → i < k + n → ∀ S w, Fit md ops S → i ∈ Region.ready md ops S → C S w → U w ∧ C (S.setIfInBounds i true) w)
    (h : wpQuiet P ops U (fun a' => wpSt P md ops C Q (k + (l.take n).length) (l.drop n) a') (l.take n) a) : wpSt P md ops C Q k l a := by
  have := wpSt_plain (P := P) (md := md) (C := C) (Q := Q) (l2 := l.drop n) U (l.take n) k a hp (fun i h1 h2 => hC i h1 (by rw [List.length_take] at h2; omega)) h
  rwa [List.take_append_drop] at this
/-- one operation that does something -/
theorem wpSt_do {Q : Act → Prop} {o : Oper} {l : List Oper} {k : Nat} {a : Act} (v : Value) (hw : Region.wanted o (yielded ops a.tmps) = true)
    (h : ∀ S w, Fit md ops S → k ∈ Region.ready md ops S → C S w → at_ P o a (C (S.setIfInBounds k true)) w v) (hK : wpSt P md ops C Q (k + 1) l (a.put o.dst v)) : wpSt P md ops C Q k (o :: l) a :=
  ⟨v, .inl ⟨hw, h⟩, hK⟩
/-- what has come up ahead -/
theorem came {i j : Nat} {S : Array Bool} (hi : i ∈ Region.ready md ops S) (h : Region.waitsFor md ops i j = true) : S.getD j true = true := by
  obtain ⟨o, ho, e, he, hb, hon⟩ := Region.waitsFor_spec h
  obtain ⟨_, o', ho', hall⟩ := mem_ready.1 hi
  obtain rfl : o = o' := Option.some.inj (ho.symm.trans ho')
  have := hall e he hb
  rw [hon] at this
  rcases Nat.lt_or_ge j S.size with h' | h'
  · simp [h'] at this ⊢; exact this
  · simp [Array.getElem?_eq_none h'] at this
theorem getD_set_self {S : Array Bool} {i : Nat} (h : S.getD i true = false) : (S.setIfInBounds i true).getD i true = true := by
  rcases Nat.lt_or_ge i S.size with h' | h'
  · simp [h']
  · simp [Array.getElem?_eq_none h'] at h
theorem getD_rep {n k : Nat} (h : k < n) : (Array.replicate n false).getD k true = false := by simp [h]

/-- the class with one operation that does something: K -/
def one (K : Nat) (D : Bool → World → Prop) (S : Array Bool) (w : World) : Prop := D (S.getD K true) w
section
variable {K : Nat} {D : Bool → World → Prop}
/-- all of k .. m - 1 lead to K: they come up ahead of it -/
theorem one_before {k m : Nat} (h : (List.range m).all (fun i => decide (i < k) || (decide (i ≠ K) && leads md ops 8 i K)) = true) :
    ∀ i, k ≤ i → i < m → ∀ S w, Fit md ops S → i ∈ Region.ready md ops S → one K D S w → D false w ∧ one K D (S.setIfInBounds i true) w := by
  intro i h1 h2 S w hF hi hS
  have := List.all_eq_true.1 h i (List.mem_range.2 h2)
  simp only [Bool.or_eq_true, decide_eq_true_eq, Bool.and_eq_true] at this
  rcases this with h3 | ⟨h3, h4⟩
  · omega
  · have hn := hF.before 8 i (mem_ready.1 hi).1 h4
    refine ⟨by unfold one at hS; rwa [hn] at hS, ?_⟩
    unfold one at *
    rwa [getD_set_ne true h3]
/-- all of k .. m - 1 wait for K -/
theorem one_after {k m : Nat} (h : (List.range m).all (fun i => decide (i < k) || (decide (i ≠ K) && Region.waitsFor md ops i K)) = true) :
    ∀ i, k ≤ i → i < m → ∀ S w, Fit md ops S → i ∈ Region.ready md ops S → one K D S w → D true w ∧ one K D (S.setIfInBounds i true) w := by
  intro i h1 h2 S w hF hi hS
  have := List.all_eq_true.1 h i (List.mem_range.2 h2)
  simp only [Bool.or_eq_true, decide_eq_true_eq, Bool.and_eq_true] at this
  rcases this with h3 | ⟨h3, h4⟩
  · omega
  · have hn := came hi h4
    refine ⟨by unfold one at hS; rwa [hn] at hS, ?_⟩
    unfold one at *
    rwa [getD_set_ne true h3]
theorem one_any {k m : Nat} (h : K < k ∨ m ≤ K) : ∀ i, k ≤ i → i < m → ∀ S w, Fit md ops S → i ∈ Region.ready md ops S → one K D S w → True ∧ one K D (S.setIfInBounds i true) w := by
  intro i h1 h2 S w _ _ hS
  refine ⟨trivial, ?_⟩
  unfold one at *
  rwa [getD_set_ne true (by omega)]
theorem one_do {o : Oper} {a : Act} {v : Value} (h : ∀ w, D false w → at_ P o a (D true) w v) : ∀ S w, Fit md ops S → K ∈ Region.ready md ops S → one K D S w → at_ P o a (one K D (S.setIfInBounds K true)) w v := by
  intro S w _ hi hS
  have hun := (mem_ready.1 hi).1
  unfold one at *
  rw [hun] at hS
  rw [getD_set_self hun]
  exact h w hS
/-- operation i, which comes up ahead of K -/
theorem one_step {i : Nat} (hl : (decide (i ≠ K) && leads md ops 8 i K) = true) {o : Oper} {a : Act} {v : Value} (h : ∀ w, D false w → at_ P o a (D false) w v) :
    ∀ S w, Fit md ops S → i ∈ Region.ready md ops S → one K D S w → at_ P o a (one K D (S.setIfInBounds i true)) w v := by
  simp only [Bool.and_eq_true, decide_eq_true_eq] at hl
  intro S w hF hi hS
  have hn := hF.before 8 i (mem_ready.1 hi).1 hl.2
  unfold one at *
  rw [getD_set_ne true hl.1, hn]
  rw [hn] at hS
  exact h w hS
theorem one_start {n : Nat} {w : World} (hk : K < n) (h : D false w) : one K D (Array.replicate n false) w := by
  unfold one; rw [getD_rep hk]; exact h
theorem one_end {Q : Exit → Act → World → Prop} {a : Act} (h : ∀ w, D true w → Q .normal a w) : Ends (one K D) Q a := by
  intro S w hS hD
  unfold one at hD
  rw [hS] at hD
  exact h w hD
end
/-- the class with two such operations -/
def two (K1 K2 : Nat) (D : Bool → Bool → World → Prop) (S : Array Bool) (w : World) : Prop := D (S.getD K1 true) (S.getD K2 true) w
section
variable {K1 K2 : Nat} {D : Bool → Bool → World → Prop}
/-- all of k .. m - 1 come up ahead of both -/
theorem two_before {k m : Nat} (h : (List.range m).all (fun i => decide (i < k) || (decide (i ≠ K1) && decide (i ≠ K2) && leads md ops 8 i K1 && leads md ops 8 i K2)) = true) :
    ∀ i, k ≤ i → i < m → ∀ S w, Fit md ops S → i ∈ Region.ready md ops S → two K1 K2 D S w → D false false w ∧ two K1 K2 D (S.setIfInBounds i true) w := by
  intro i h1 h2 S w hF hi hS
  have := List.all_eq_true.1 h i (List.mem_range.2 h2)
  simp only [Bool.or_eq_true, decide_eq_true_eq, Bool.and_eq_true] at this
  rcases this with h3 | ⟨⟨⟨h3, h3'⟩, h4⟩, h5⟩
  · omega
  · have hn := hF.before 8 i (mem_ready.1 hi).1 h4
    have hn' := hF.before 8 i (mem_ready.1 hi).1 h5
    refine ⟨by unfold two at hS; rwa [hn, hn'] at hS, ?_⟩
    unfold two at *
    rwa [getD_set_ne true h3, getD_set_ne true h3']
theorem two_any {k m : Nat} (h : K1 < k ∨ m ≤ K1) (h' : K2 < k ∨ m ≤ K2) : ∀ i, k ≤ i → i < m → ∀ S w, Fit md ops S → i ∈ Region.ready md ops S → two K1 K2 D S w → True ∧ two K1 K2 D (S.setIfInBounds i true) w := by
  intro i h1 h2 S w _ _ hS
  refine ⟨trivial, ?_⟩
  unfold two at *
  rwa [getD_set_ne true (by omega), getD_set_ne true (by omega)]
theorem two_do1 {o : Oper} {a : Act} {v : Value} (hne : K1 ≠ K2) (h : ∀ b w, D false b w → at_ P o a (D true b) w v) : ∀ S w, Fit md ops S → K1 ∈ Region.ready md ops S → two K1 K2 D S w → at_ P o a (two K1 K2 D (S.setIfInBounds K1 true)) w v := by
  intro S w _ hi hS
  have hun := (mem_ready.1 hi).1
  unfold two at *
  rw [hun] at hS
  rw [getD_set_self hun, getD_set_ne true hne]
  exact h _ w hS
theorem two_do2 {o : Oper} {a : Act} {v : Value} (hne : K1 ≠ K2) (h : ∀ b w, D b false w → at_ P o a (D b true) w v) : ∀ S w, Fit md ops S → K2 ∈ Region.ready md ops S → two K1 K2 D S w → at_ P o a (two K1 K2 D (S.setIfInBounds K2 true)) w v := by
  intro S w _ hi hS
  have hun := (mem_ready.1 hi).1
  unfold two at *
  rw [hun] at hS
  rw [getD_set_self hun, getD_set_ne true (Ne.symm hne)]
  exact h _ w hS
/-- the first leads to the second -/
theorem two_first {o : Oper} {a : Act} {v : Value} (hne : K1 ≠ K2) (hwt : leads md ops 8 K1 K2 = true) (h : ∀ w, D false false w → at_ P o a (D true false) w v) : ∀ S w, Fit md ops S → K1 ∈ Region.ready md ops S → two K1 K2 D S w → at_ P o a (two K1 K2 D (S.setIfInBounds K1 true)) w v := by
  intro S w hF hi hS
  have hun := (mem_ready.1 hi).1
  have hn := hF.before 8 K1 hun hwt
  unfold two at *
  rw [hun, hn] at hS
  rw [getD_set_self hun, getD_set_ne true hne, hn]
  exact h w hS
theorem two_then {o : Oper} {a : Act} {v : Value} (hne : K1 ≠ K2) (hwt : Region.waitsFor md ops K2 K1 = true) (h : ∀ w, D true false w → at_ P o a (D true true) w v) : ∀ S w, Fit md ops S → K2 ∈ Region.ready md ops S → two K1 K2 D S w → at_ P o a (two K1 K2 D (S.setIfInBounds K2 true)) w v := by
  intro S w _ hi hS
  have hun := (mem_ready.1 hi).1
  unfold two at *
  rw [hun, came hi hwt] at hS
  rw [getD_set_self hun, getD_set_ne true (Ne.symm hne), came hi hwt]
  exact h w hS
theorem two_start {n : Nat} {w : World} (h1 : K1 < n) (h2 : K2 < n) (h : D false false w) : two K1 K2 D (Array.replicate n false) w := by
  unfold two; rw [getD_rep h1, getD_rep h2]; exact h
theorem two_end {Q : Exit → Act → World → Prop} {a : Act} (h : ∀ w, D true true w → Q .normal a w) : Ends (two K1 K2 D) Q a := by
  intro S w hS hD
  unfold two at hD
  rw [hS, hS] at hD
  exact h w hD
end
end
end Stage
end

section
open Go.RowKit

theorem splice_cons {α : Type} (L : List α) (o : Nat) (x : α) (l : List α) (h : o + (l.length + 1) ≤ L.length) : splice (L.set o x) (o + 1) l = splice L o (x :: l) := by
  unfold splice
  rw [List.take_set, List.drop_set_of_lt (by omega), List.length_cons, show o + 1 + l.length = o + (l.length + 1) by omega]
  rw [List.take_succ_eq_append_getElem (by omega), List.set_append_right (h := by simp; omega)]
  simp [show o - min o L.length = 0 by omega]
theorem foldl_cells (vs : List Value) : ∀ (k off : Nat) (cs : Array Value), off + k + vs.length ≤ cs.size →
    ((vs.zipIdx k).foldl (fun cs (x : Value × Nat) => cs.setIfInBounds (off + x.2) x.1) cs).toList = splice cs.toList (off + k) vs := by
  induction vs with
  | nil => intro k off cs h; simp [splice]
  | cons v vs ih =>
    intro k off cs h
    simp only [List.length_cons] at h
    rw [List.zipIdx_cons, List.foldl_cons, ih (k + 1) off _ (by simp; omega), Array.toList_setIfInBounds]
    exact splice_cons cs.toList (off + k) v vs (by simp; omega)
theorem fill_step (place : Nat → Option (Nat × Nat)) (cells : Array Value) (i : Nat) (v : Value) (rest : List (Nat × Value)) (off size : Nat) (hp : place i = some (off, size)) (hs : v.cells.size = size) (hf : off + size ≤ cells.size) :
    Instr.fill place cells ((i, v) :: rest) = Instr.fill place (splice cells.toList off v.cells.toList).toArray rest := by
  rw [Instr.fill, hp]
  simp only
  rw [if_neg (by simp [hs]; omega)]
  congr 1
  apply Array.ext'
  have := foldl_cells v.cells.toList 0 off cells (by simp [hs]; omega)
  simp only [Nat.add_zero] at this
  rw [← this, show v.cells.toList.zipIdx = v.cells.zipIdx.toList by simp, Array.foldl_toList]

theorem add_at (g off j : Nat) : (⟨g, off, none⟩ : Addr).add j = ⟨g, off + j, none⟩ := by
  cases j with
  | zero => rfl
  | succ j => simp [Addr.add]
section
variable {P : Program} {C : World → Prop} {w : World} {o : Oper} {a : Act}
theorem run_load_part (g off n : Nat) (ty : TypeId) (d : TypeDesc) (cs : List Value) (hc : ∀ j v, cs[j]? = some v → w.cell? ((⟨g, off, none⟩ : Addr).add j) = some v)
    (hu : P.underlying ty = some d) (hd : (match d with | .struct _ | .array _ _ => true | _ => false) = true) (hi : (P.info? ty).map (·.size) = some cs.length) :
    (loadVar ty ⟨g, off, none⟩).run P w = .ok (.agg cs.toArray) w := by
  have hl : (loadCells ⟨g, off, none⟩ cs.length).run P w = .ok cs.toArray w := run_loadCells_list (P := P) w ⟨g, off, none⟩ cs hc
  cases hq : P.info? ty with
  | none => simp [hq] at hi
  | some i =>
    have hs : i.size = cs.length := by simpa [hq] using hi
    have hagg : (isAgg ty).run P w = .ok true w := by
      unfold isAgg
      rw [Sem.run_bind, run_underlying hu w]
      cases d <;> simp_all
    simp [loadVar, Sem.run_bind, hagg, sizeOf, typeInfo, hq, hs, hl]
theorem run_loadAt_part (g off : Nat) (ty : TypeId) (d : TypeDesc) (cs : List Value) (hc : ∀ j v, cs[j]? = some v → w.cell? ((⟨g, off, none⟩ : Addr).add j) = some v)
    (hu : P.underlying ty = some d) (hd : (match d with | .struct _ | .array _ _ => true | _ => false) = true) (hi : (P.info? ty).map (·.size) = some cs.length) :
    (Instr.loadAt ty (.pointer (some ⟨g, off, none⟩))).run P w = .ok (.agg cs.toArray) w := by
  simp only [Instr.loadAt, Instr.sureAddr, Sem.run_bind, Sem.run_pure, Result.andThen_ok, run_load_part g off cs.length ty d cs hc hu hd hi]
theorem at_load_part (ty : TypeId) (x : Operand) (ho : o.op = .load ty x) (g off : Nat) (hx : a.eval x = .pointer (some ⟨g, off, none⟩)) (d : TypeDesc) (cs : List Value)
    (hc : ∀ j v, cs[j]? = some v → w.cell? ((⟨g, off, none⟩ : Addr).add j) = some v)
    (hu : P.underlying ty = some d) (hd : (match d with | .struct _ | .array _ _ => true | _ => false) = true) (hi : (P.info? ty).map (·.size) = some cs.length) (h : C w) : Stage.at_ P o a C w (.agg cs.toArray) := by
  unfold Stage.at_ execOp
  simp only [ho, hx, Instr.loadAt, Instr.sureAddr, Sem.run_bind, Sem.run_pure, Result.andThen_ok, run_load_part g off cs.length ty d cs hc hu hd hi, Stage.upon]
  exact ⟨trivial, h⟩
theorem at_build (t : TypeId) (parts : Array (Nat × Operand)) (ho : o.op = .build t parts) (cells : Array Value) (vs : List (Nat × Value)) (hv : (parts.toList.map fun (i, x) => (i, a.eval x)) = vs) (hb : P.built t vs = some cells) (h : C w) : Stage.at_ P o a C w (.agg cells) := by
  subst hv
  have hr := run_build (P := P) w t (parts.map fun (i, x) => (i, a.eval x)) cells (by rw [Array.toList_map]; exact hb)
  unfold Stage.at_ execOp
  simp only [ho, Sem.run_bind, hr, Result.andThen_ok, Sem.run_pure, Stage.upon]
  exact ⟨trivial, h⟩
theorem at_box (t : TypeId) (x : Operand) (ho : o.op = .box t x) (cells : Array Value) (hx : (a.eval x).cells = cells) (n : Nat) (hn : w.heap.size = n) (h : C (w.alloc (.cells cells t))) : Stage.at_ P o a C w (.pointer (some ⟨n, 0, none⟩)) := by
  subst hn
  unfold Stage.at_ execOp
  simp only [ho]
  have hr : (Instr.box t (a.eval x)).run P w = .ok (.pointer (some ⟨w.heap.size, 0, none⟩)) (w.alloc (.cells cells t)) := by
    rw [← hx]
    simp [Instr.box, newVar, newRow, newObj, Sem.run_bind]
    rfl
  simp only [Sem.run_bind, hr, Result.andThen_ok, Sem.run_pure, Stage.upon]
  exact ⟨trivial, h⟩
end
end

section
namespace Free
section
variable {P : Program}

/-- what an operation yields -/
def gets (P : Program) (K : Value → World → Prop) : Result Next → Prop
  | .ok (.value u) w' => K u w'
  | .ok .skip w' => K undef w'
  | .ok (.enter f args) w' => Calls P f args w' (fun e w'' => ∃ v, e = .returned v ∧ K v w'')
  | _ => False
def dsts (l : List Oper) : List Tmp := l.filterMap (·.dst)
/-- what an operation waits for stands ahead of it -/
def upB (l : List Oper) : Bool := (List.range l.length).all fun i => match l[i]? with | some o => o.after.all fun e => !Region.binds .any e || decide (e.on < i) | none => true
def okB (l : List Oper) (n : Nat) : Bool := upB l && l.all (fun o => o.guard.isNone) && decide (dsts l).Nodup && (dsts l).all (fun t => decide (t < n))
def slot (a : Act) (o : Oper) : Value := match o.dst with | some t => a.tmps.getD t undef | none => undef
def puts (a : Act) : List Oper → Nat → (Nat → Value) → Act
  | [], _, _ => a
  | o :: l, k, vs => puts (a.put o.dst (vs k)) l (k + 1) vs

theorem put_getD (a : Act) (d : Option Tmp) (v : Value) (t : Nat) (h : d ≠ some t) : (a.put d v).tmps.getD t undef = a.tmps.getD t undef := by
  unfold Act.put
  cases d with
  | none => rfl
  | some d =>
    have : d ≠ t := fun e => h (by rw [e])
    simp [Array.getElem?_setIfInBounds_ne this]
theorem put_getD_self (a : Act) (t : Nat) (v : Value) (h : t < a.tmps.size) : (a.put (some t) v).tmps.getD t undef = v := by simp [Act.put, h]
theorem put_size (a : Act) (d : Option Tmp) (v : Value) : (a.put d v).tmps.size = a.tmps.size := by unfold Act.put; cases d <;> simp
theorem put_defers (a : Act) (d : Option Tmp) (v : Value) : (a.put d v).defers = a.defers := by unfold Act.put; cases d <;> rfl
theorem puts_size (l : List Oper) : ∀ (a : Act) (k : Nat) (vs : Nat → Value), (puts a l k vs).tmps.size = a.tmps.size ∧ (puts a l k vs).defers = a.defers := by
  induction l with
  | nil => intro a k vs; exact ⟨rfl, rfl⟩
  | cons o l ih => intro a k vs; have := ih (a.put o.dst (vs k)) (k + 1) vs; rw [put_size, put_defers] at this; exact this
theorem mem_dsts {l : List Oper} {i : Nat} {o : Oper} {t : Tmp} (h : l[i]? = some o) (ht : o.dst = some t) : t ∈ dsts l := List.mem_filterMap.2 ⟨o, List.mem_of_getElem? h, ht⟩
theorem puts_old (l : List Oper) : ∀ (a : Act) (k : Nat) (vs : Nat → Value) (t : Nat), t ∉ dsts l → (puts a l k vs).tmps.getD t undef = a.tmps.getD t undef := by
  induction l with
  | nil => intro a k vs t _; rfl
  | cons o l ih =>
    intro a k vs t ht
    rw [puts, ih _ _ _ _ (fun h => ht (by obtain ⟨o', ho', e⟩ := List.mem_filterMap.1 h; exact List.mem_filterMap.2 ⟨o', List.mem_cons_of_mem _ ho', e⟩)),
      put_getD _ _ _ _ (fun e => ht (List.mem_filterMap.2 ⟨o, by simp, e⟩))]
theorem puts_new (l : List Oper) : ∀ (a : Act) (k : Nat) (vs : Nat → Value) (i : Nat) (o : Oper) (t : Nat), (dsts l).Nodup → l[i]? = some o → o.dst = some t → t < a.tmps.size → (puts a l k vs).tmps.getD t undef = vs (k + i) := by
  induction l with
  | nil => intro a k vs i o t _ h; simp at h
  | cons o l ih =>
    intro a k vs i o' t hnd hi ht hlt
    rw [puts]
    cases i with
    | zero =>
      simp at hi; subst hi
      have hd : dsts (o :: l) = t :: dsts l := by simp [dsts, ht]
      rw [hd, List.nodup_cons] at hnd
      rw [puts_old _ _ _ _ _ hnd.1, ht, put_getD_self _ _ _ hlt]; rfl
    | succ i =>
      have hnd' : (dsts l).Nodup := by
        cases hd : o.dst with
        | none => have : dsts (o :: l) = dsts l := by simp [dsts, hd]
                  rwa [this] at hnd
        | some d => have : dsts (o :: l) = d :: dsts l := by simp [dsts, hd]
                    rw [this, List.nodup_cons] at hnd; exact hnd.2
      rw [ih _ _ _ i o' t hnd' (by simpa using hi) ht (by rw [put_size]; exact hlt)]
      congr 1; omega
theorem act_ext {a b : Act} (hd : a.defers = b.defers) (hs : a.tmps.size = b.tmps.size) (h : ∀ t, t < a.tmps.size → a.tmps.getD t undef = b.tmps.getD t undef) : a = b := by
  obtain ⟨ta, da⟩ := a
  obtain ⟨tb, db⟩ := b
  simp only at hd hs h
  subst hd
  congr 1
  apply Array.ext hs
  intro i h1 h2
  have := h i h1
  simpa [h1, h2] using this
theorem dst_ne {l : List Oper} (hnd : (dsts l).Nodup) : ∀ {i j : Nat} {oi oj : Oper} {t : Tmp}, l[i]? = some oi → l[j]? = some oj → oi.dst = some t → oj.dst = some t → i = j := by
  induction l with
  | nil => intro i j oi oj t h; simp at h
  | cons o l ih =>
    intro i j oi oj t hi hj hti htj
    have key : ∀ {k : Nat} {ok : Oper}, l[k]? = some ok → ok.dst = some t → o.dst = some t → False := by
      intro k ok hk h1 h2
      have hd : dsts (o :: l) = t :: dsts l := by simp [dsts, h2]
      have hnd2 := hnd
      rw [hd, List.nodup_cons] at hnd2
      exact hnd2.1 (mem_dsts hk h1)
    have hnd' : (dsts l).Nodup := by
      cases hd : o.dst with
      | none => have : dsts (o :: l) = dsts l := by simp [dsts, hd]
                rwa [this] at hnd
      | some d => have : dsts (o :: l) = d :: dsts l := by simp [dsts, hd]
                  rw [this, List.nodup_cons] at hnd; exact hnd.2
    cases i with
    | zero =>
      cases j with
      | zero => rfl
      | succ j => simp at hi hj; subst hi; exact (key hj htj hti).elim
    | succ i =>
      cases j with
      | zero => simp at hi hj; subst hj; exact (key hi hti htj).elim
      | succ j => exact congrArg (· + 1) (ih hnd' (i := i) (j := j) (by simpa using hi) (by simpa using hj) hti htj)

/-- EACH ORDER, BY A RELATION OF EACH OPERATION'S VALUE -/
theorem wp_region {id : Nat} {Q : Exit → Act → World → Prop} {a0 : Act} {w0 : World} {l : List Oper} (hm : P.follows .mixedOrders = true) (hB : okB l a0.tmps.size = true)
    (F : World → Prop) (R : Nat → Value → World → Prop) (hF : F w0.drew)
    (hstep : ∀ i o, l[i]? = some o → ∀ (a : Act) (w : World), (∀ t, t ∉ dsts l → a.eval (.tmp t) = a0.eval (.tmp t)) →
      (∀ j oj t, Region.waitsFor .any l.toArray i j = true → l[j]? = some oj → oj.dst = some t → R j (a.eval (.tmp t)) w) → F w →
      gets P (fun v w' => R i v w' ∧ F w' ∧ ∀ j u, R j u w → R j u w') ((execOp a.eval o).run P w))
    (hend : ∀ (vs : Nat → Value) (w' : World), (∀ i, i < l.length → (∀ o, l[i]? = some o → o.dst.isSome = true) → R i (vs i) w') → F w' → Q .normal (puts a0 l 0 vs) w') : (Code.region id l.toArray true).wp P Q a0 w0 := by
  simp only [okB, Bool.and_eq_true, decide_eq_true_eq] at hB
  obtain ⟨⟨⟨hns, hgd⟩, hnd⟩, hlt⟩ := hB
  have hlt' : ∀ t ∈ dsts l, t < a0.tmps.size := fun t ht => by simpa using List.all_eq_true.1 hlt t ht
  let Inv : Array Bool → Act → World → Prop := fun S a w => a.defers = a0.defers ∧ a.tmps.size = a0.tmps.size ∧ (∀ t, t ∉ dsts l → a.tmps.getD t undef = a0.tmps.getD t undef) ∧ F w ∧
    ∀ i o t, l[i]? = some o → S.getD i false = true → o.dst = some t → R i (a.tmps.getD t undef) w
  have main : ∀ (fuel : Nat) (S : Array Bool) (a : Act) (w : World), S.toList.count false = fuel → Stage.Fit .any l.toArray S → Inv S a w → wpAny P .any l.toArray Q fuel S a w := by
    intro fuel
    have fin : ∀ (S : Array Bool) (a : Act) (w : World), Stage.Fit .any l.toArray S → (∀ i, S.getD i true = true) → Inv S a w → Q .normal a w := by
      rintro S a w hFit hS ⟨h1, h2, h3, h4, h5⟩
      have e : a = puts a0 l 0 (fun i => match l[i]? with | some o => slot a o | none => undef) := by
        have hp := puts_size l a0 0 (fun i => match l[i]? with | some o => slot a o | none => undef)
        refine act_ext (h1.trans hp.2.symm) (h2.trans hp.1.symm) (fun t ht => ?_)
        by_cases hm : t ∈ dsts l
        · obtain ⟨o, ho, e⟩ := List.mem_filterMap.1 hm
          obtain ⟨i, hi⟩ := List.getElem?_of_mem ho
          rw [puts_new l a0 0 _ i o t hnd hi e (hlt' t hm), Nat.zero_add]
          simp only [hi, slot, e]
        · rw [puts_old _ _ _ _ _ hm]; exact h3 t hm
      rw [e]
      refine hend _ w (fun i hi hd => ?_) h4
      have hi' : l[i]? = some l[i] := List.getElem?_eq_getElem hi
      simp only [hi']
      obtain ⟨t, ht⟩ := Option.isSome_iff_exists.1 (hd _ hi')
      have hSi : S.getD i false = true := by
        have h1 := hS i
        have : i < S.size := by rw [hFit.size]; simpa using hi
        simp [this] at h1 ⊢; exact h1
      have := h5 i _ t hi' hSi ht
      unfold slot; rw [ht]; exact this
    have one : ∀ (S : Array Bool) (a : Act) (w : World) (K : Act → World → Prop), Stage.Fit .any l.toArray S → Inv S a w → ∀ i ∈ Region.ready .any l.toArray S, (∀ a' w', Inv (S.setIfInBounds i true) a' w' → K a' w') → wpOp P l.toArray Q i K a w := by
      rintro S a w K hFit ⟨h1, h2, h3, h4, h5⟩ i hi hK
      obtain ⟨hun, o, ho, hall⟩ := mem_ready.1 hi
      have hol : l[i]? = some o := by simpa using ho
      unfold wpOp
      simp only [ho]
      have hw : Region.wanted o (yielded l.toArray a.tmps) = true := by
        have := List.all_eq_true.1 hgd o (List.mem_of_getElem? hol)
        have hn : o.guard = none := by simpa using this
        simp [Region.wanted, hn]
      rw [if_pos hw]
      refine .inl ?_
      have hpre : ∀ j oj t, Region.waitsFor .any l.toArray i j = true → l[j]? = some oj → oj.dst = some t → R j (a.eval (.tmp t)) w := by
        intro j oj t hwt hj hd
        have hc := Stage.came hi hwt
        have hSj : S.getD j false = true := by
          have hjl : j < S.size := by rw [hFit.size]; simpa using (List.getElem?_eq_some_iff.1 hj).1
          simp [hjl] at hc ⊢; exact hc
        exact h5 j oj t hj hSj hd
      have hs := hstep i o hol a w (fun t ht => h3 t ht) hpre h4
      have step : ∀ v w', (R i v w' ∧ F w' ∧ ∀ j u, R j u w → R j u w') → K (a.put o.dst v) w' := by
        rintro v w' ⟨r1, r2, r3⟩
        refine hK _ _ ⟨by rw [put_defers]; exact h1, by rw [put_size]; exact h2, fun t ht => ?_, r2, fun j oj t hj hSj hd => ?_⟩
        · rw [put_getD _ _ _ _ (fun e => ht (mem_dsts hol e))]; exact h3 t ht
        · by_cases hij : i = j
          · subst hij
            obtain rfl : oj = o := Option.some.inj (hj.symm.trans hol)
            rw [hd, put_getD_self _ _ _ (by rw [h2]; exact hlt' t (mem_dsts hj hd))]
            exact r1
          · rw [getD_set_ne false hij] at hSj
            rw [put_getD _ _ _ _ (fun e => hij (dst_ne hnd hol hj e hd))]
            exact r3 j _ (h5 j oj t hj hSj hd)
      unfold Oper.wp
      generalize (execOp a.eval o).run P w = r at hs
      cases r with
      | ok n w' =>
        cases n <;> simp only [gets] at hs <;> simp only [Oper.upon]
        case value u => exact step _ _ hs
        case skip => exact step _ _ hs
        case enter f args => exact hs.mono fun e w'' ⟨v, he, h⟩ => by subst he; exact step _ _ h
      | halt x w' => simp only [gets] at hs
    induction fuel with
    | zero =>
      intro S a w hn hFit hI
      have hS : ∀ i, S.getD i true = true := fun i => by rw [Stage.getD_toList]; exact Stage.all_of_count hn i
      refine ⟨?_, fin S a w hFit hS hI⟩
      cases hr : Region.ready .any l.toArray S with
      | nil => rfl
      | cons i r =>
        have := (mem_ready.1 (show i ∈ Region.ready .any l.toArray S by rw [hr]; simp)).1
        rw [hS i] at this; cases this
    | succ fuel ih =>
      intro S a w hn hFit hI
      refine ⟨fun h0 => ?_, fun i hi => ?_⟩
      · refine fin S a w hFit (fun i => ?_) hI
        induction i using Nat.strongRecOn with
        | _ i ihi =>
          cases hx : S.getD i true with
          | true => rfl
          | false =>
            exfalso
            have hil : i < l.length := by
              rcases Nat.lt_or_ge i S.size with h' | h'
              · rw [hFit.size] at h'; simpa using h'
              · simp [Array.getElem?_eq_none h'] at hx
            have hup := List.all_eq_true.1 hns i (List.mem_range.2 hil)
            rw [List.getElem?_eq_getElem hil] at hup
            have hr : i ∈ Region.ready .any l.toArray S := by
              refine mem_ready.2 ⟨hx, l[i], by simp [hil], fun e he hbe => ?_⟩
              have h1 : e.on < i := by
                have := Array.all_eq_true_iff_forall_mem.1 hup e he
                simpa [hbe] using this
              have h2 := ihi e.on h1
              have h3 : e.on < S.size := by rw [hFit.size]; simp; omega
              simp [h3] at h2 ⊢; exact h2
            rw [h0] at hr; cases hr
      · have hun := (mem_ready.1 hi).1
        have hc : (S.setIfInBounds i true).toList.count false = fuel := by
          rw [Array.toList_setIfInBounds]
          have := Stage.count_set (l := S.toList) (i := i) (by rw [← Stage.getD_toList]; exact hun)
          omega
        exact one S a w _ hFit hI i hi (fun a' w' hI' => ih _ a' w' hc (hFit.set hi) hI')
  refine wp_region_any hm (main _ _ _ _ (by simp) (by simpa using Stage.Fit.start (md := .any) (ops := l.toArray)) ⟨rfl, rfl, fun _ _ => rfl, hF, fun i o t _ h _ => ?_⟩)
  rw [getD_replicate_false] at h; cases h
/-- the same where nothing that was there is written -/
theorem wp_grow {id : Nat} {Q : Exit → Act → World → Prop} {a0 : Act} {w0 : World} {l : List Oper} (hm : P.follows .mixedOrders = true) (hB : okB l a0.tmps.size = true)
    (R : Nat → Value → World → Prop) (hR : ∀ j u w w', RowKit.Below w.heap.size w w' → R j u w → R j u w')
    (hstep : ∀ i o, l[i]? = some o → ∀ (a : Act) (w : World), (∀ t, t ∉ dsts l → a.eval (.tmp t) = a0.eval (.tmp t)) →
      (∀ j oj t, Region.waitsFor .any l.toArray i j = true → l[j]? = some oj → oj.dst = some t → R j (a.eval (.tmp t)) w) → RowKit.Below w0.heap.size w0 w →
      gets P (fun v w' => R i v w' ∧ RowKit.Below w.heap.size w w') ((execOp a.eval o).run P w))
    (hend : ∀ (vs : Nat → Value) (w' : World), (∀ i, i < l.length → (∀ o, l[i]? = some o → o.dst.isSome = true) → R i (vs i) w') → RowKit.Below w0.heap.size w0 w' → Q .normal (puts a0 l 0 vs) w') : (Code.region id l.toArray true).wp P Q a0 w0 := by
  refine wp_region hm hB (fun w => RowKit.Below w0.heap.size w0 w) R (RowKit.Below.refl _ _).drew (fun i o hi a w h1 h2 h3 => ?_) hend
  have hs := hstep i o hi a w h1 h2 h3
  generalize (execOp a.eval o).run P w = r at hs
  have key : ∀ v w', (R i v w' ∧ RowKit.Below w.heap.size w w') → R i v w' ∧ RowKit.Below w0.heap.size w0 w' ∧ ∀ j u, R j u w → R j u w' := fun v w' ⟨k1, k2⟩ =>
    ⟨k1, h3.trans (k2.mono h3.size), fun j u hj => hR j u w w' k2 hj⟩
  cases r with
  | ok n w' =>
    cases n <;> simp only [gets] at hs ⊢
    case value u => exact key _ _ hs
    case skip => exact key _ _ hs
    case enter f args => exact hs.mono fun e w'' ⟨v, he, h⟩ => ⟨v, he, key _ _ h⟩
  | halt x w' => simp only [gets] at hs

section
variable {K : Value → World → Prop} {a : Act} {o : Oper} {w w' : World}
theorem g_move (x : Operand) (ho : o.op = .move x) (h : K (a.eval x) w) : gets P K ((execOp a.eval o).run P w) := by
  unfold execOp; simp only [ho, Sem.run_pure, gets]; exact h
theorem g_assign (x : Operand) (ho : o.op = .assign x) (h : K (a.eval x) w) : gets P K ((execOp a.eval o).run P w) := by
  unfold execOp; simp only [ho, Sem.run_pure, gets]; exact h
theorem g_load {v p : Value} (t : TypeId) (x : Operand) (ho : o.op = .load t x) (hx : a.eval x = p) (hr : (Instr.loadAt t p).run P w = .ok v w') (h : K v w') : gets P K ((execOp a.eval o).run P w) := by
  unfold execOp; simp only [ho, hx, Sem.run_bind, hr, Result.andThen_ok, Sem.run_pure, gets]; exact h
theorem g_field {v p : Value} (t : TypeId) (x : Operand) (f : Nat) (ho : o.op = .fieldAddr t x f) (hx : a.eval x = p) (hr : (Instr.fieldAt t p f).run P w = .ok v w') (h : K v w') : gets P K ((execOp a.eval o).run P w) := by
  unfold execOp; simp only [ho, hx, Sem.run_bind, hr, Result.andThen_ok, Sem.run_pure, gets]; exact h
theorem g_indexAddr {v p q : Value} (t : TypeId) (x y : Operand) (ho : o.op = .indexAddr t x y) (hx : a.eval x = p) (hy : a.eval y = q) (hr : (Instr.indexAt t p q).run P w = .ok v w') (h : K v w') : gets P K ((execOp a.eval o).run P w) := by
  unfold execOp; simp only [ho, hx, hy, Sem.run_bind, hr, Result.andThen_ok, Sem.run_pure, gets]; exact h
theorem g_convert {v p : Value} (s t : TypeId) (x : Operand) (ho : o.op = .convert s t x) (hx : a.eval x = p) (hr : (convert s t p).run P w = .ok v w') (h : K v w') : gets P K ((execOp a.eval o).run P w) := by
  unfold execOp; simp only [ho, hx, Sem.run_bind, hr, Result.andThen_ok, Sem.run_pure, gets]; exact h
theorem g_bin {v p q : Value} (op : BinOp) (t u : TypeId) (x y : Operand) (ho : o.op = .binOp op t x y u) (hx : a.eval x = p) (hy : a.eval y = q) (hr : (do eqGuard op t x y p q; binOp op t p q : Sem Value).run P w = .ok v w') (h : K v w') : gets P K ((execOp a.eval o).run P w) := by
  unfold execOp; simp only [ho, hx, hy]; rw [Sem.run_bind, hr]; simp only [Result.andThen_ok, Sem.run_pure, gets]; exact h
theorem g_build (t : TypeId) (parts : Array (Nat × Operand)) (ho : o.op = .build t parts) (cells : Array Value) (vs : List (Nat × Value)) (hv : (parts.toList.map fun (i, x) => (i, a.eval x)) = vs) (hb : P.built t vs = some cells) (h : K (.agg cells) w) : gets P K ((execOp a.eval o).run P w) := by
  subst hv
  have hr := run_build (P := P) w t (parts.map fun (i, x) => (i, a.eval x)) cells (by rw [Array.toList_map]; exact hb)
  unfold execOp
  simp only [ho, Sem.run_bind, hr, Result.andThen_ok, Sem.run_pure, gets]; exact h
theorem g_box (t : TypeId) (x : Operand) (ho : o.op = .box t x) (p : Value) (hx : a.eval x = p) (h : K (.pointer (some ⟨w.heap.size, 0, none⟩)) (w.alloc (.cells p.cells t))) : gets P K ((execOp a.eval o).run P w) := by
  unfold execOp
  have hr : (Instr.box t p).run P w = .ok (.pointer (some ⟨w.heap.size, 0, none⟩)) (w.alloc (.cells p.cells t)) := by
    simp [Instr.box, newVar, newRow, newObj, Sem.run_bind]
    rfl
  simp only [ho, hx, Sem.run_bind, hr, Result.andThen_ok, Sem.run_pure, gets]; exact h
theorem run_enter {f : FuncId} {fn : Func} {c : Code} (hf : P.funcs[f]? = some fn) (hname : (fn.name == "runtime.NumGoroutine") = false) (hb : fn.body = some c) (args : Array Value) (w : World) :
    (callFunc f args).run P w = .ok (.enter f args) w := by
  have h1 : fn.name ≠ "runtime.NumGoroutine" := by simpa using hname
  simp [callFunc, hf, h1, hb]
theorem g_call {f : FuncId} {fn : Func} {c : Code} (args : Array Operand) (ats : Array TypeId) (ho : o.op = .call { callee := .value (.func f), args := args, argTypes := ats }) (hf : P.funcs[f]? = some fn) (hname : (fn.name == "runtime.NumGoroutine") = false) (hb : fn.body = some c)
    (vs : List Value) (hv : args.toList.map a.eval = vs) (h : Calls P f vs.toArray w (fun e w'' => ∃ v, e = .returned v ∧ K v w'')) : gets P K ((execOp a.eval o).run P w) := by
  have hv' : args.map a.eval = vs.toArray := by rw [← hv]; apply Array.ext'; simp
  have hr := run_enter (P := P) hf hname hb (vs.toArray) w
  unfold execOp
  simp only [ho, resolve, hv', Act.eval, Deferred.ofValue, Sem.run_bind, Sem.run_pure, Result.andThen_ok, invoke, Array.append_empty, Array.empty_append, hr, gets]
  exact h
theorem at_call {C : World → Prop} {v : Value} {f : FuncId} {fn : Func} {c : Code} (args : Array Operand) (ats : Array TypeId) (ho : o.op = .call { callee := .value (.func f), args := args, argTypes := ats }) (hf : P.funcs[f]? = some fn) (hname : (fn.name == "runtime.NumGoroutine") = false) (hb : fn.body = some c)
    (vs : List Value) (hv : args.toList.map a.eval = vs) (h : Calls P f vs.toArray w (fun e w'' => e = .returned v ∧ C w'')) : Stage.at_ P o a C w v := by
  have hv' : args.map a.eval = vs.toArray := by rw [← hv]; apply Array.ext'; simp
  have hr := run_enter (P := P) hf hname hb (vs.toArray) w
  unfold Stage.at_ execOp
  simp only [ho, resolve, hv', Act.eval, Deferred.ofValue, Sem.run_bind, Sem.run_pure, Result.andThen_ok, invoke, Array.append_empty, Array.empty_append, hr, Stage.upon]
  exact h
theorem at_load {C : World → Prop} {v p : Value} (t : TypeId) (x : Operand) (ho : o.op = .load t x) (hx : a.eval x = p) (hr : (Instr.loadAt t p).run P w = .ok v w) (h : C w) : Stage.at_ P o a C w v := by
  unfold Stage.at_ execOp; simp only [ho, hx, Sem.run_bind, hr, Result.andThen_ok, Sem.run_pure, Stage.upon]; exact ⟨trivial, h⟩
theorem at_convert {C : World → Prop} {v p : Value} (s t : TypeId) (x : Operand) (ho : o.op = .convert s t x) (hx : a.eval x = p) (hr : (convert s t p).run P w = .ok v w) (h : C w) : Stage.at_ P o a C w v := by
  unfold Stage.at_ execOp; simp only [ho, hx, Sem.run_bind, hr, Result.andThen_ok, Sem.run_pure, Stage.upon]; exact ⟨trivial, h⟩
end
end
end Free
end

section
namespace Free
section
variable {P : Program}
def okG (l : List Oper) (n : Nat) : Bool := upB l && decide (dsts l).Nodup && (dsts l).all (fun t => decide (t < n))
/-- when it comes up: it is carried out, or passed over -/
def Comes (P : Program) (l : List Oper) (a : Act) (o : Oper) (w : World) (K : Value → World → Prop) : Prop :=
  (Region.wanted o (yielded l.toArray a.tmps) = true ∧ gets P K ((execOp a.eval o).run P w)) ∨ (Region.wanted o (yielded l.toArray a.tmps) = false ∧ K undef w)
/-- each order, with guards: what each operation's slot holds once it has come up -/
theorem wp_guarded {id : Nat} {Q : Exit → Act → World → Prop} {a0 : Act} {w0 : World} {l : List Oper} (hm : P.follows .mixedOrders = true) (hB : okG l a0.tmps.size = true)
    (F : World → Prop) (V : Nat → Value → Prop) (hF : F w0.drew)
    (hstep : ∀ i o, l[i]? = some o → ∀ (a : Act) (w : World), (∀ t, t ∉ dsts l → a.eval (.tmp t) = a0.eval (.tmp t)) →
      (∀ j oj t, Region.waitsFor .any l.toArray i j = true → l[j]? = some oj → oj.dst = some t → V j (a.eval (.tmp t))) → F w →
      Comes P l a o w (fun v w' => V i v ∧ F w'))
    (hend : ∀ (vs : Nat → Value) (w' : World), (∀ i, i < l.length → (∀ o, l[i]? = some o → o.dst.isSome = true) → V i (vs i)) → F w' → Q .normal (puts a0 l 0 vs) w') : (Code.region id l.toArray true).wp P Q a0 w0 := by
  simp only [okG, Bool.and_eq_true, decide_eq_true_eq] at hB
  obtain ⟨⟨hns, hnd⟩, hlt⟩ := hB
  have hlt' : ∀ t ∈ dsts l, t < a0.tmps.size := fun t ht => by simpa using List.all_eq_true.1 hlt t ht
  let Inv : Array Bool → Act → World → Prop := fun S a w => a.defers = a0.defers ∧ a.tmps.size = a0.tmps.size ∧ (∀ t, t ∉ dsts l → a.tmps.getD t undef = a0.tmps.getD t undef) ∧ F w ∧
    ∀ i o t, l[i]? = some o → S.getD i false = true → o.dst = some t → V i (a.tmps.getD t undef)
  have main : ∀ (fuel : Nat) (S : Array Bool) (a : Act) (w : World), S.toList.count false = fuel → Stage.Fit .any l.toArray S → Inv S a w → wpAny P .any l.toArray Q fuel S a w := by
    intro fuel
    have fin : ∀ (S : Array Bool) (a : Act) (w : World), Stage.Fit .any l.toArray S → (∀ i, S.getD i true = true) → Inv S a w → Q .normal a w := by
      rintro S a w hFit hS ⟨h1, h2, h3, h4, h5⟩
      have e : a = puts a0 l 0 (fun i => match l[i]? with | some o => slot a o | none => undef) := by
        have hp := puts_size l a0 0 (fun i => match l[i]? with | some o => slot a o | none => undef)
        refine act_ext (h1.trans hp.2.symm) (h2.trans hp.1.symm) (fun t ht => ?_)
        by_cases hm : t ∈ dsts l
        · obtain ⟨o, ho, e⟩ := List.mem_filterMap.1 hm
          obtain ⟨i, hi⟩ := List.getElem?_of_mem ho
          rw [puts_new l a0 0 _ i o t hnd hi e (hlt' t hm), Nat.zero_add]
          simp only [hi, slot, e]
        · rw [puts_old _ _ _ _ _ hm]; exact h3 t hm
      rw [e]
      refine hend _ w (fun i hi hd => ?_) h4
      have hi' : l[i]? = some l[i] := List.getElem?_eq_getElem hi
      simp only [hi']
      obtain ⟨t, ht⟩ := Option.isSome_iff_exists.1 (hd _ hi')
      have hSi : S.getD i false = true := by
        have h1 := hS i
        have : i < S.size := by rw [hFit.size]; simpa using hi
        simp [this] at h1 ⊢; exact h1
      have := h5 i _ t hi' hSi ht
      unfold slot; rw [ht]; exact this
    have one : ∀ (S : Array Bool) (a : Act) (w : World) (K : Act → World → Prop), Stage.Fit .any l.toArray S → Inv S a w → ∀ i ∈ Region.ready .any l.toArray S, (∀ a' w', Inv (S.setIfInBounds i true) a' w' → K a' w') → wpOp P l.toArray Q i K a w := by
      rintro S a w K hFit ⟨h1, h2, h3, h4, h5⟩ i hi hK
      obtain ⟨hun, o, ho, hall⟩ := mem_ready.1 hi
      have hol : l[i]? = some o := by simpa using ho
      unfold wpOp
      simp only [ho]
      have hpre : ∀ j oj t, Region.waitsFor .any l.toArray i j = true → l[j]? = some oj → oj.dst = some t → V j (a.eval (.tmp t)) := by
        intro j oj t hwt hj hd
        have hc := Stage.came hi hwt
        have hSj : S.getD j false = true := by
          have hjl : j < S.size := by rw [hFit.size]; simpa using (List.getElem?_eq_some_iff.1 hj).1
          simp [hjl] at hc ⊢; exact hc
        exact h5 j oj t hj hSj hd
      have hs := hstep i o hol a w (fun t ht => h3 t ht) hpre h4
      have step : ∀ v w', (V i v ∧ F w') → K (a.put o.dst v) w' := by
        rintro v w' ⟨r1, r2⟩
        refine hK _ _ ⟨by rw [put_defers]; exact h1, by rw [put_size]; exact h2, fun t ht => ?_, r2, fun j oj t hj hSj hd => ?_⟩
        · rw [put_getD _ _ _ _ (fun e => ht (mem_dsts hol e))]; exact h3 t ht
        · by_cases hij : i = j
          · subst hij
            obtain rfl : oj = o := Option.some.inj (hj.symm.trans hol)
            rw [hd, put_getD_self _ _ _ (by rw [h2]; exact hlt' t (mem_dsts hj hd))]
            exact r1
          · rw [getD_set_ne false hij] at hSj
            rw [put_getD _ _ _ _ (fun e => hij (dst_ne hnd hol hj e hd))]
            exact h5 j oj t hj hSj hd
      rcases hs with ⟨hw, hs⟩ | ⟨hw, hs⟩
      case inr => rw [if_neg (by rw [hw]; exact Bool.false_ne_true)]; exact step _ _ hs
      rw [if_pos hw]
      refine .inl ?_
      unfold Oper.wp
      generalize (execOp a.eval o).run P w = r at hs
      cases r with
      | ok n w' =>
        cases n <;> simp only [gets] at hs <;> simp only [Oper.upon]
        case value u => exact step _ _ hs
        case skip => exact step _ _ hs
        case enter f args => exact hs.mono fun e w'' ⟨v, he, h⟩ => by subst he; exact step _ _ h
      | halt x w' => simp only [gets] at hs
    induction fuel with
    | zero =>
      intro S a w hn hFit hI
      have hS : ∀ i, S.getD i true = true := fun i => by rw [Stage.getD_toList]; exact Stage.all_of_count hn i
      refine ⟨?_, fin S a w hFit hS hI⟩
      cases hr : Region.ready .any l.toArray S with
      | nil => rfl
      | cons i r =>
        have := (mem_ready.1 (show i ∈ Region.ready .any l.toArray S by rw [hr]; simp)).1
        rw [hS i] at this; cases this
    | succ fuel ih =>
      intro S a w hn hFit hI
      refine ⟨fun h0 => ?_, fun i hi => ?_⟩
      · refine fin S a w hFit (fun i => ?_) hI
        induction i using Nat.strongRecOn with
        | _ i ihi =>
          cases hx : S.getD i true with
          | true => rfl
          | false =>
            exfalso
            have hil : i < l.length := by
              rcases Nat.lt_or_ge i S.size with h' | h'
              · rw [hFit.size] at h'; simpa using h'
              · simp [Array.getElem?_eq_none h'] at hx
            have hup := List.all_eq_true.1 hns i (List.mem_range.2 hil)
            rw [List.getElem?_eq_getElem hil] at hup
            have hr : i ∈ Region.ready .any l.toArray S := by
              refine mem_ready.2 ⟨hx, l[i], by simp [hil], fun e he hbe => ?_⟩
              have h1 : e.on < i := by
                have := Array.all_eq_true_iff_forall_mem.1 hup e he
                simpa [hbe] using this
              have h2 := ihi e.on h1
              have h3 : e.on < S.size := by rw [hFit.size]; simp; omega
              simp [h3] at h2 ⊢; exact h2
            rw [h0] at hr; cases hr
      · have hun := (mem_ready.1 hi).1
        have hc : (S.setIfInBounds i true).toList.count false = fuel := by
          rw [Array.toList_setIfInBounds]
          have := Stage.count_set (l := S.toList) (i := i) (by rw [← Stage.getD_toList]; exact hun)
          omega
        exact one S a w _ hFit hI i hi (fun a' w' hI' => ih _ a' w' hc (hFit.set hi) hI')
  refine wp_region_any hm (main _ _ _ _ (by simp) (by simpa using Stage.Fit.start (md := .any) (ops := l.toArray)) ⟨rfl, rfl, fun _ _ => rfl, hF, fun i o t _ h _ => ?_⟩)
  rw [getD_replicate_false] at h; cases h

theorem getD_bool {t : Tmp} {b : Bool} {T : Array Value} (h : T.getD t undef = .bool b) : T[t]? = some (.bool b) := by
  rcases Nat.lt_or_ge t T.size with h' | h'
  · simp [h'] at h ⊢; exact h
  · simp [h', undef] at h
theorem getD_undef {t : Tmp} {T : Array Value} (h : T.getD t undef = undef) : T[t]? = some undef ∨ T[t]? = none := by
  rcases Nat.lt_or_ge t T.size with h' | h'
  · left; simp [h'] at h ⊢; exact h
  · right; simp [h']
section
variable {l : List Oper} {a : Act} {o oj : Oper} {w : World} {K : Value → World → Prop} {j : Nat} {t : Tmp} {want b : Bool}
theorem c_all (hg : o.guard = none) (h : gets P K ((execOp a.eval o).run P w)) : Comes P l a o w K := .inl ⟨by simp [Region.wanted, hg], h⟩
theorem c_yes (hg : o.guard = some (j, want)) (hj : l[j]? = some oj) (hd : oj.dst = some t) (hv : a.eval (.tmp t) = .bool want) (h : gets P K ((execOp a.eval o).run P w)) : Comes P l a o w K := by
  have hv' : a.tmps.getD t undef = .bool want := hv
  refine .inl ⟨?_, h⟩
  simp [Region.wanted, hg, yielded, hj, hd, getD_bool hv']
theorem c_no (hg : o.guard = some (j, want)) (hj : l[j]? = some oj) (hd : oj.dst = some t) (hv : a.eval (.tmp t) = .bool (!want)) (h : K undef w) : Comes P l a o w K := by
  have hv' : a.tmps.getD t undef = .bool (!want) := hv
  refine .inr ⟨?_, h⟩
  simp [Region.wanted, hg, yielded, hj, hd, getD_bool hv']
theorem c_none (hg : o.guard = some (j, want)) (hj : l[j]? = some oj) (hd : oj.dst = some t) (hv : a.eval (.tmp t) = undef) (h : K undef w) : Comes P l a o w K := by
  have hv' : a.tmps.getD t undef = undef := hv
  refine .inr ⟨?_, h⟩
  rcases getD_undef hv' with e | e
  · simp [Region.wanted, hg, yielded, hj, hd, e, undef]
  · simp [Region.wanted, hg, yielded, hj, hd, e]
end
section
variable {K : Value → World → Prop} {a : Act} {o : Oper} {w w' : World}
theorem g_len {v p : Value} (x : Operand) (t : TypeId) (ho : o.op = .call { callee := .builtin .len, args := #[x], argTypes := #[t] }) (hx : a.eval x = p) (hr : (Builtin.len_ #[t] o.type #[p]).run P w = .ok v w') (h : K v w') : gets P K ((execOp a.eval o).run P w) := by
  unfold execOp
  simp only [ho, resolve, invoke, builtin, Sem.run_bind, Sem.run_pure, Result.andThen_ok, List.map_toArray, List.map_cons, List.map_nil, hx, hr, gets]
  exact h
theorem g_pick {u v : Value} {b : Bool} (c x y : Operand) (ho : o.op = .pick c x y) (hc : a.eval c = .bool b) (hx : a.eval x = u) (hy : a.eval y = v) (h : K (if b then u else v) w) : gets P K ((execOp a.eval o).run P w) := by
  unfold execOp
  simp only [ho, hc, hx, hy, Sem.run_bind, asBool, Sem.run_pure, Result.andThen_ok, gets]
  exact h
end
section
variable (w : World) (x y : Operand)
theorem r_eql (t : TypeId) (k : IntKind) (m n : Int) : (do eqGuard .eql t x y (.int k m) (.int k n); binOp .eql t (.int k m) (.int k n) : Sem Value).run P w = .ok (.bool (m == n)) w := by simp [go_sem]
theorem r_neq (t : TypeId) (k : IntKind) (m n : Int) : (do eqGuard .neq t x y (.int k m) (.int k n); binOp .neq t (.int k m) (.int k n) : Sem Value).run P w = .ok (.bool (m != n)) w := by simp [go_sem]
theorem r_gtr (t : TypeId) (k : IntKind) (m n : Int) : (do eqGuard .gtr t x y (.int k m) (.int k n); binOp .gtr t (.int k m) (.int k n) : Sem Value).run P w = .ok (.bool (decide (m > n))) w := by simp [go_sem]
theorem r_add (t : TypeId) (k : IntKind) (m n : Int) : (do eqGuard .add t x y (.int k m) (.int k n); binOp .add t (.int k m) (.int k n) : Sem Value).run P w = .ok (.int k (k.wrap (m + n))) w := by simp [go_sem]
end
end
end Free
end

section
open Go.RowKit
set_option maxRecDepth 100000
/-- one operation makes memory, a second one does more -/
def Seq4 (a b : World) (Q : World → Prop) (b1 b2 : Bool) (w : World) : Prop := match b1, b2 with
  | false, false => w = a
  | true, false => w = b
  | true, true => Q w
  | false, true => False
namespace Stage
section
variable {P : Program} {ops : Array Oper} {md : Region.Mode} {K1 K2 : Nat} {D : Bool → Bool → World → Prop}
/-- operation i, which comes up ahead of the second -/
theorem two_step {i : Nat} (hl : (decide (i ≠ K1) && decide (i ≠ K2) && leads md ops 8 i K2) = true) {o : Oper} {a : Act} {v : Value} (h : ∀ b w, D b false w → at_ P o a (D b false) w v) :
    ∀ S w, Fit md ops S → i ∈ Region.ready md ops S → two K1 K2 D S w → at_ P o a (two K1 K2 D (S.setIfInBounds i true)) w v := by
  simp only [Bool.and_eq_true, decide_eq_true_eq] at hl
  intro S w hF hi hS
  have hn := hF.before 8 i (mem_ready.1 hi).1 hl.2
  unfold two at *
  rw [getD_set_ne true hl.1.1, getD_set_ne true hl.1.2, hn]
  rw [hn] at hS
  exact h _ w hS
theorem at_convert2 {C : World → Prop} {o : Oper} {a : Act} {w w' : World} {v p : Value} (s t : TypeId) (x : Operand) (ho : o.op = .convert s t x) (hx : a.eval x = p) (hr : (convert s t p).run P w = .ok v w') (h : C w') : at_ P o a C w v := by
  unfold at_ execOp; simp only [ho, hx, Sem.run_bind, hr, Result.andThen_ok, Sem.run_pure, upon]; exact ⟨trivial, h⟩
end
end Stage
end
end Go.Proofs.Ytcjdjdhjbchaaaa
