/- Stage, Parts, Quiet, StEq, StRight -/
import Derived.Deep.Quiet
import Derived.StillTail
import Derived.BigQuiet
import Derived.Test.YtcdofkhkckodjaaGreatDoorCa0
import Derived.Laws.CopyOwn
import Derived.Laws.Tables
import Derived.Laws.StructEq
namespace Go.Proofs.YtcdofkhkckodjaaGreatDoor
set_option linter.unusedVariables false
section
namespace Stage
section
variable {P : Program} {ops : Array Oper} {md : Region.Mode} {C : Array Bool → World → Prop}

def upon (P : Program) (C : World → Prop) (v : Value) : Result Next → Prop
  | .ok (.value u) w' => u = v ∧ C w'
  | .ok .skip w' => v = undef ∧ C w'
  | .ok (.enter f args) w' => Calls P f args w' (fun e w'' => e = .returned v ∧ C w'')
  | _ => False
def at_ (P : Program) (o : Oper) (a : Act) (C : World → Prop) (w : World) (v : Value) : Prop := upon P C v ((execOp a.eval o).run P w)
structure Fit (md : Region.Mode) (ops : Array Oper) (S : Array Bool) : Prop where
  size : S.size = ops.size
  closed : ∀ (j : Nat) (oj : Oper), ops[j]? = some oj → S.getD j false = true → ∀ e ∈ oj.after, Region.binds md e = true → S.getD e.on false = true
theorem Fit.start : Fit md ops (Array.replicate ops.size false) := ⟨by simp, fun j oj hj h => by rw [getD_replicate_false] at h; cases h⟩
theorem Fit.set {S : Array Bool} {i : Nat} (h : Fit md ops S) (hi : i ∈ Region.ready md ops S) : Fit md ops (S.setIfInBounds i true) := by
  obtain ⟨_, oi, hoi, hall⟩ := mem_ready.1 hi
  refine ⟨by simp [h.size], fun j oj hj hl e he hb => ?_⟩
  by_cases hij : i = j
  · subst hij
    obtain rfl : oj = oi := Option.some.inj (hj.symm.trans hoi)
    exact getD_set_true (hall e he hb)
  · rw [getD_set_ne false hij] at hl
    exact getD_set_true (h.closed j oj hj hl e he hb)
def leads (md : Region.Mode) (ops : Array Oper) : Nat → Nat → Nat → Bool
  | 0, _, _ => false
  | n + 1, i, K => Region.waitsFor md ops K i || (List.range ops.size).any fun j => Region.waitsFor md ops j i && leads md ops n j K
theorem Fit.not {S : Array Bool} (h : Fit md ops S) {i j : Nat} (hi : S.getD i true = false) (hw : Region.waitsFor md ops j i = true) : S.getD j true = false := by
  obtain ⟨o, ho, e, he, hb, hon⟩ := Region.waitsFor_spec hw
  have hj : j < S.size := by rw [h.size]; exact (Array.getElem?_eq_some_iff.1 ho).1
  cases hx : S.getD j true with
  | false => rfl
  | true =>
    have hx' : S.getD j false = true := by simp [hj] at hx ⊢; exact hx
    have := h.closed j o ho hx' e he hb
    rw [hon, getD_both hi] at this; cases this
theorem Fit.before {S : Array Bool} (h : Fit md ops S) {K : Nat} : ∀ (n i : Nat), S.getD i true = false → leads md ops n i K = true → S.getD K true = false := by
  intro n
  induction n with
  | zero => intro i _ hl; cases hl
  | succ n ih =>
    intro i hi hl
    simp only [leads, Bool.or_eq_true, List.any_eq_true, Bool.and_eq_true] at hl
    rcases hl with hl | ⟨j, _, hw, hl⟩
    · exact h.not hi hl
    · exact ih j (h.not hi hw) hl
def Yields (P : Program) (md : Region.Mode) (ops : Array Oper) (C : Array Bool → World → Prop) (i : Nat) (o : Oper) (v : Value) (a : Act) : Prop :=
  (Region.wanted o (yielded ops a.tmps) = true ∧ ∀ S w, Fit md ops S → i ∈ Region.ready md ops S → C S w → at_ P o a (C (S.setIfInBounds i true)) w v) ∨
  (Region.wanted o (yielded ops a.tmps) = false ∧ v = undef ∧ ∀ S w, Fit md ops S → i ∈ Region.ready md ops S → C S w → C (S.setIfInBounds i true) w)
def sOp (P : Program) (md : Region.Mode) (ops : Array Oper) (C : Array Bool → World → Prop) (i : Nat) (K : Act → Prop) (a : Act) : Prop :=
  ∃ o v, ops[i]? = some o ∧ Yields P md ops C i o v a ∧ K (a.put o.dst v)
theorem sOp_mono {i : Nat} {a : Act} {K K' : Act → Prop} (h : ∀ a, K a → K' a) (hh : sOp P md ops C i K a) : sOp P md ops C i K' a := by
  obtain ⟨o, v, h1, h2, h3⟩ := hh
  exact ⟨o, v, h1, h2, h _ h3⟩
def wpAnyT (P : Program) (md : Region.Mode) (ops : Array Oper) (C : Array Bool → World → Prop) (Q : Act → Prop) : Nat → Array Bool → Act → Prop
  | 0, listed, a => Region.ready md ops listed = [] ∧ Q a
  | fuel + 1, listed, a => Region.ready md ops listed ≠ [] ∧ ∀ i ∈ Region.ready md ops listed, sOp P md ops C i (wpAnyT P md ops C Q fuel (listed.setIfInBounds i true)) a

theorem count_set {l : List Bool} : ∀ {i : Nat}, l.getD i true = false → (l.set i true).count false + 1 = l.count false := by
  induction l with
  | nil => intro i h; simp at h
  | cons b l ih =>
    intro i h
    cases i with
    | zero => simp at h; subst h; simp
    | succ i =>
      have := ih (i := i) (by simpa using h)
      simp only [List.set_cons_succ, List.count_cons]
      omega
theorem all_of_count {l : List Bool} (h : l.count false = 0) (i : Nat) : l.getD i true = true := by
  cases hb : l.getD i true with
  | true => rfl
  | false =>
    exfalso
    have hm : false ∈ l := by
      rw [List.getD_eq_getElem?_getD] at hb
      cases hx : l[i]? with
      | none => simp [hx] at hb
      | some x => simp [hx] at hb; subst hb; exact List.mem_of_getElem? hx
    have := List.count_pos_iff.2 hm
    omega
theorem getD_toList (S : Array Bool) (i : Nat) : S.getD i true = S.toList.getD i true := by
  simp [List.getD_eq_getElem?_getD]

theorem wpAny_of {Q : Act → Prop} {Q' : Exit → Act → World → Prop} (hQ : ∀ S a w, (∀ i, S.getD i true = true) → C S w → Q a → Q' .normal a w) : ∀ (fuel : Nat) (listed : Array Bool) (a : Act) (w : World), listed.toList.count false = fuel → Fit md ops listed → C listed w →
    wpAnyT P md ops C Q fuel listed a → wpAny P md ops Q' fuel listed a w
  | 0, listed, a, w, hn, _, hC, h => ⟨h.1, hQ _ _ _ (fun i => by rw [getD_toList]; exact all_of_count hn i) hC h.2⟩
  | fuel + 1, listed, a, w, hn, hF, hC, h => by
    refine ⟨fun h0 => absurd h0 h.1, fun i hi => ?_⟩
    obtain ⟨o, v, ho, hy, hK⟩ := h.2 i hi
    have hun := (mem_ready.1 hi).1
    have hc : (listed.setIfInBounds i true).toList.count false = fuel := by
      rw [Array.toList_setIfInBounds]
      have := count_set (l := listed.toList) (i := i) (by rw [← getD_toList]; exact hun)
      omega
    unfold wpOp
    simp only [ho]
    rcases hy with ⟨hw, hy⟩ | ⟨hw, rfl, hy⟩
    · rw [if_pos hw]
      refine .inl ?_
      have h1 := hy listed w hF hi hC
      unfold at_ at h1
      unfold Oper.wp
      generalize (execOp a.eval o).run P w = r at h1
      cases r with
      | ok n w' =>
        cases n <;> simp only [upon] at h1 <;> simp only [Oper.upon]
        case value u => obtain ⟨rfl, h2⟩ := h1; exact wpAny_of hQ fuel _ _ _ hc (hF.set hi) h2 hK
        case skip => obtain ⟨rfl, h2⟩ := h1; exact wpAny_of hQ fuel _ _ _ hc (hF.set hi) h2 hK
        case enter f args => exact h1.mono fun e w'' ⟨he, h2⟩ => by subst he; exact wpAny_of hQ fuel _ _ _ hc (hF.set hi) h2 hK
      | halt x w' => simp only [upon] at h1
    · rw [if_neg (by rw [hw]; exact Bool.false_ne_true)]
      exact wpAny_of hQ fuel _ _ _ hc (hF.set hi) (hy _ _ hF hi hC) hK

theorem Yields.of_same {i : Nat} {o : Oper} {v : Value} {a a' : Act} (hy : Yields P md ops C i o v a) (he : execOp a'.eval o = execOp a.eval o)
    (hw : Region.wanted o (yielded ops a'.tmps) = Region.wanted o (yielded ops a.tmps)) : Yields P md ops C i o v a' := by
  unfold Yields at_ at *
  rw [he, hw]
  exact hy

theorem sOp_put {i j : Nat} {oi oj : Oper} {v : Value} (hj : ops[j]? = some oj) (hap : oi.apart ops oj = true)
    (hsi : ∀ cs b, oi.op ≠ .select cs b) (hsj : ∀ cs b, oj.op ≠ .select cs b) {K : Act → Prop} {a : Act}
    (hy : Yields P md ops C i oi v a) (h : sOp P md ops C j K (a.put oi.dst v)) :
    sOp P md ops C j (fun a' => Yields P md ops C i oi v a' ∧ K (a'.put oi.dst v)) a := by
  obtain ⟨h1, h2, h3⟩ := Oper.apart_spec hap
  obtain ⟨o, u, ho, hu, hK⟩ := h
  obtain rfl : o = oj := Option.some.inj (ho.symm.trans hj)
  refine ⟨o, u, hj, hu.of_same (execOp_put o hsj a oi.dst v h1).symm (wanted_put o a oi.dst v h1).symm, ?_, ?_⟩
  · exact hy.of_same (execOp_put oi hsi a o.dst u h3) (wanted_put oi a o.dst u h3)
  · rw [← Act.put_comm a v u h2]; exact hK

theorem wpAnyT_first {Q : Act → Prop} {i : Nat} {oi : Oper} {v : Value} (hi : ops[i]? = some oi) (hsel : ∀ (j : Nat) (o : Oper) cs b, ops[j]? = some o → o.op ≠ .select cs b) :
    ∀ (fuel : Nat) (listed : Array Bool) (a : Act),
      (∀ j oj, ops[j]? = some oj → j ≠ i → listed.getD j true = false → (∀ e ∈ oj.after, Region.binds md e = true → e.on ≠ i) → oi.apart ops oj = true) →
      i ∈ Region.ready md ops listed → Yields P md ops C i oi v a →
      wpAnyT P md ops C Q fuel (listed.setIfInBounds i true) (a.put oi.dst v) → wpAnyT P md ops C Q (fuel + 1) listed a := by
  intro fuel
  induction fuel with
  | zero =>
    intro listed a _ hr hy H
    refine ⟨fun h => (by rw [h] at hr; cases hr), fun j hj => ?_⟩
    by_cases hji : j = i
    · subst hji; exact ⟨oi, v, hi, hy, H⟩
    · have := ready_mono hj hji
      rw [H.1] at this
      cases this
  | succ fuel ih =>
    intro listed a hfree hr hy H
    refine ⟨fun h => (by rw [h] at hr; cases hr), fun j hj => ?_⟩
    by_cases hji : j = i
    · subst hji; exact ⟨oi, v, hi, hy, H⟩
    · have h1 := H.2 j (ready_mono hj hji)
      obtain ⟨hjun, oj, hoj, hall⟩ := mem_ready.1 hj
      have hnot : ∀ e ∈ oj.after, Region.binds md e = true → e.on ≠ i := fun e he hb heq => by
        have h1 := hall e he hb
        have h0 := (mem_ready.1 hr).1
        rw [heq] at h1
        rcases Nat.lt_or_ge i listed.size with h' | h'
        · simp [h'] at h0 h1; rw [h0] at h1; cases h1
        · simp [Array.getElem?_eq_none h'] at h1
      have h2 := sOp_put hoj (hfree j oj hoj hji hjun hnot) (fun cs b => hsel i oi cs b hi) (fun cs b => hsel j oj cs b hoj) hy h1
      have hfree' : ∀ k ok, ops[k]? = some ok → k ≠ i → (listed.setIfInBounds j true).getD k true = false →
          (∀ e ∈ ok.after, Region.binds md e = true → e.on ≠ i) → oi.apart ops ok = true := fun k ok hk hki hun hno => by
        refine hfree k ok hk hki ?_ hno
        by_cases hjk : j = k
        · subst hjk; exact hjun
        · rw [getD_set_ne true hjk] at hun; exact hun
      refine sOp_mono (fun a' h3 => ih (listed.setIfInBounds j true) a' hfree' (ready_mono hr (Ne.symm hji)) h3.1 ?_) h2
      rw [Array.setIfInBounds_comm _ _ hji]
      exact h3.2

def wpSt (P : Program) (md : Region.Mode) (ops : Array Oper) (C : Array Bool → World → Prop) (Q : Act → Prop) : Nat → List Oper → Act → Prop
  | _, [], a => Q a
  | k, o :: rest, a => ∃ v, Yields P md ops C k o v a ∧ wpSt P md ops C Q (k + 1) rest (a.put o.dst v)

theorem wpAnyT_lex {Q : Act → Prop} (hs : Region.noSelect ops = true) : ∀ (l : List Oper) (k : Nat) (listed : Array Bool) (a : Act), (∀ j, l[j]? = ops[k + j]?) →
    Region.lexFrom md ops l.length k listed = true → wpSt P md ops C Q k l a → wpAnyT P md ops C Q l.length listed a
  | [], _, _, _, _, hB, h => ⟨by simpa [Region.lexFrom] using hB, h⟩
  | o :: l, k, listed, a, hl, hB, h => by
    have h0 : ops[k]? = some o := by simpa using (hl 0).symm
    simp only [List.length_cons, Region.lexFrom, Bool.and_eq_true] at hB
    obtain ⟨⟨hr, hf⟩, hB'⟩ := hB
    obtain ⟨v, hy, hK⟩ := h
    exact wpAnyT_first h0 (Region.noSelect_spec hs) l.length listed a (Region.free_spec h0 hf) (by simpa using hr) hy
      (wpAnyT_lex hs l (k + 1) _ _ (fun j => by have := hl (j + 1); simpa [Nat.add_assoc, Nat.add_comm 1 j] using this) hB' hK)

def Ends (C : Array Bool → World → Prop) (Q : Exit → Act → World → Prop) (a : Act) : Prop := ∀ S w', (∀ i, S.getD i true = true) → C S w' → Q .normal a w'
theorem wpSt_nil {Q : Act → Prop} {k : Nat} {a : Act} (h : Q a) : wpSt P md ops C Q k [] a := h
theorem wp_region {id : Nat} {Q : Exit → Act → World → Prop} {a : Act} {w : World} {l : List Oper} (hm : P.follows .mixedOrders = true) (hB : Region.lexB .any l.toArray = true)
    (C : Array Bool → World → Prop) (hC : C (Array.replicate l.length false) w.drew)
    (h : wpSt P .any l.toArray C (Ends C Q) 0 l a) : (Code.region id l.toArray true).wp P Q a w := by
  simp only [Region.lexB, Bool.and_eq_true] at hB
  refine wp_region_any hm (wpAny_of (C := C) (Q := Ends C Q) (fun S _ w' hS hw' h => h S w' hS hw') _ _ _ _ (by simp) (by simpa using Fit.start (md := .any) (ops := l.toArray)) (by simpa using hC) ?_)
  have := wpAnyT_lex (C := C) (md := .any) hB.1 l 0 (Array.replicate l.length false) a (by simp) (by simpa using hB.2) h
  simpa using this

def plain (o : Oper) : Bool := match o.op with
  | .move _ | .assign _ | .load .. | .nilCheck _ | .binOp .. | .unOp .. | .convert .. | .slice .. | .fieldAddr .. | .field .. | .indexAddr .. | .index .. | .build .. | .extract .. | .pick .. => true
  | .call c => match c.callee with
    | .builtin .len | .builtin .cap => true
    | _ => false
  | _ => false
theorem wpSt_do {Q : Act → Prop} {o : Oper} {l : List Oper} {k : Nat} {a : Act} (v : Value) (hw : Region.wanted o (yielded ops a.tmps) = true)
    (h : ∀ S w, Fit md ops S → k ∈ Region.ready md ops S → C S w → at_ P o a (C (S.setIfInBounds k true)) w v) (hK : wpSt P md ops C Q (k + 1) l (a.put o.dst v)) : wpSt P md ops C Q k (o :: l) a :=
  ⟨v, .inl ⟨hw, h⟩, hK⟩
theorem came {i j : Nat} {S : Array Bool} (hi : i ∈ Region.ready md ops S) (h : Region.waitsFor md ops i j = true) : S.getD j true = true := by
  obtain ⟨o, ho, e, he, hb, hon⟩ := Region.waitsFor_spec h
  obtain ⟨_, o', ho', hall⟩ := mem_ready.1 hi
  obtain rfl : o = o' := Option.some.inj (ho.symm.trans ho')
  have := hall e he hb
  rw [hon] at this
  rcases Nat.lt_or_ge j S.size with h' | h'
  · simp [h'] at this ⊢; exact this
  · simp [Array.getElem?_eq_none h'] at this
theorem getD_set_self {S : Array Bool} {i : Nat} (h : S.getD i true = false) : (S.setIfInBounds i true).getD i true = true := by
  rcases Nat.lt_or_ge i S.size with h' | h'
  · simp [h']
  · simp [Array.getElem?_eq_none h'] at h
theorem getD_rep {n k : Nat} (h : k < n) : (Array.replicate n false).getD k true = false := by simp [h]

def one (K : Nat) (D : Bool → World → Prop) (S : Array Bool) (w : World) : Prop := D (S.getD K true) w
section
variable {K : Nat} {D : Bool → World → Prop}
end
def two (K1 K2 : Nat) (D : Bool → Bool → World → Prop) (S : Array Bool) (w : World) : Prop := D (S.getD K1 true) (S.getD K2 true) w
section
variable {K1 K2 : Nat} {D : Bool → Bool → World → Prop}
theorem two_first {o : Oper} {a : Act} {v : Value} (hne : K1 ≠ K2) (hwt : leads md ops 8 K1 K2 = true) (h : ∀ w, D false false w → at_ P o a (D true false) w v) : ∀ S w, Fit md ops S → K1 ∈ Region.ready md ops S → two K1 K2 D S w → at_ P o a (two K1 K2 D (S.setIfInBounds K1 true)) w v := by
  intro S w hF hi hS
  have hun := (mem_ready.1 hi).1
  have hn := hF.before 8 K1 hun hwt
  unfold two at *
  rw [hun, hn] at hS
  rw [getD_set_self hun, getD_set_ne true hne, hn]
  exact h w hS
theorem two_then {o : Oper} {a : Act} {v : Value} (hne : K1 ≠ K2) (hwt : Region.waitsFor md ops K2 K1 = true) (h : ∀ w, D true false w → at_ P o a (D true true) w v) : ∀ S w, Fit md ops S → K2 ∈ Region.ready md ops S → two K1 K2 D S w → at_ P o a (two K1 K2 D (S.setIfInBounds K2 true)) w v := by
  intro S w _ hi hS
  have hun := (mem_ready.1 hi).1
  unfold two at *
  rw [hun, came hi hwt] at hS
  rw [getD_set_self hun, getD_set_ne true (Ne.symm hne), came hi hwt]
  exact h w hS
theorem two_start {n : Nat} {w : World} (h1 : K1 < n) (h2 : K2 < n) (h : D false false w) : two K1 K2 D (Array.replicate n false) w := by
  unfold two; rw [getD_rep h1, getD_rep h2]; exact h
theorem two_end {Q : Exit → Act → World → Prop} {a : Act} (h : ∀ w, D true true w → Q .normal a w) : Ends (two K1 K2 D) Q a := by
  intro S w hS hD
  unfold two at hD
  rw [hS, hS] at hD
  exact h w hD
end
end
end Stage
end

section
open Go.RowKit

theorem add_at (g off j : Nat) : (⟨g, off, none⟩ : Addr).add j = ⟨g, off + j, none⟩ := by
  cases j with
  | zero => rfl
  | succ j => simp [Addr.add]
section
variable {P : Program} {C : World → Prop} {w : World} {o : Oper} {a : Act}
theorem run_load_part (g off n : Nat) (ty : TypeId) (d : TypeDesc) (cs : List Value) (hc : ∀ j v, cs[j]? = some v → w.cell? ((⟨g, off, none⟩ : Addr).add j) = some v)
    (hu : P.underlying ty = some d) (hd : (match d with | .struct _ | .array _ _ => true | _ => false) = true) (hi : (P.info? ty).map (·.size) = some cs.length) :
    (loadVar ty ⟨g, off, none⟩).run P w = .ok (.agg cs.toArray) w := by
  have hl : (loadCells ⟨g, off, none⟩ cs.length).run P w = .ok cs.toArray w := run_loadCells_list (P := P) w ⟨g, off, none⟩ cs hc
  cases hq : P.info? ty with
  | none => simp [hq] at hi
  | some i =>
    have hs : i.size = cs.length := by simpa [hq] using hi
    have hagg : (isAgg ty).run P w = .ok true w := by
      unfold isAgg
      rw [Sem.run_bind, run_underlying hu w]
      cases d <;> simp_all
    simp [loadVar, Sem.run_bind, hagg, sizeOf, typeInfo, hq, hs, hl]
theorem run_loadAt_part (g off : Nat) (ty : TypeId) (d : TypeDesc) (cs : List Value) (hc : ∀ j v, cs[j]? = some v → w.cell? ((⟨g, off, none⟩ : Addr).add j) = some v)
    (hu : P.underlying ty = some d) (hd : (match d with | .struct _ | .array _ _ => true | _ => false) = true) (hi : (P.info? ty).map (·.size) = some cs.length) :
    (Instr.loadAt ty (.pointer (some ⟨g, off, none⟩))).run P w = .ok (.agg cs.toArray) w := by
  simp only [Instr.loadAt, Instr.sureAddr, Sem.run_bind, Sem.run_pure, Result.andThen_ok, run_load_part g off cs.length ty d cs hc hu hd hi]
end
end

section
open Go.RowKit
section
variable {P : Program} {C : World → Prop} {K : Act → Prop} {a : Act} {o : Oper} {ops : Array Oper}
theorem q_load {v p : Value} (t : TypeId) (x : Operand) (ho : o.op = .load t x) (hw : Region.wanted o (yielded ops a.tmps) = true) (hx : a.eval x = p) (hr : ∀ w', C w' → (Instr.loadAt t p).run P w' = .ok v w') (hk : K (a.put o.dst v)) :
    if Region.wanted o (yielded ops a.tmps) then o.quiet P a C K else K (a.put o.dst undef) := by
  rw [if_pos hw]
  refine ⟨v, fun w' hw' => ?_, hk⟩
  unfold Oper.quietAt execOp
  simp only [ho, hx, Sem.run_bind, hr w' hw', Result.andThen_ok, Sem.run_pure, Oper.quietUpon]
  exact ⟨trivial, trivial⟩
end
def Holds (w : World) (g : Nat) (t : St) : Prop := Row w g 49 t.cells
section
variable {W : World} {g : Nat} {t : St}
theorem Holds.lt (h : Holds W g t) : g < W.heap.size := Row.lt h
theorem Holds.below {w' : World} (h : Holds W g t) (hb : Below W.heap.size W w') : Holds w' g t := Row.below h hb h.lt
theorem Holds.alloc (h : Holds W g t) (o : Obj) : Holds (W.alloc o) g t := Row.alloc h o
theorem Holds.drewN (h : Holds W g t) (n : Nat) : Holds (W.drewN n) g t := h
theorem Holds.made (w : World) (t : St) : Holds (w.alloc (.cells #[.int .i64 t.d, .int .i64 t.e, .int .i64 t.x, .int .i64 t.y, .int .i64 t.z] 49)) w.heap.size t := Row.made w _ _
theorem Holds.at_ (h : Holds W g t) (j : Nat) : W.cell? ⟨g, j, none⟩ = t.cells[j]? := Row.cell h j
theorem load_t (h : Holds W g t) : ∀ w', Below W.heap.size W w' → (Instr.loadAt 49 (.pointer (some ⟨g, 0, none⟩))).run Tryz.prog w' = .ok (.agg #[.int .i64 t.d, .int .i64 t.e, .int .i64 t.x, .int .i64 t.y, .int .i64 t.z]) w' :=
  fun w' hb => run_loadAt_part g 0 49 _ t.cells (fun j v hj => by rw [add_at, (h.below hb).at_, Nat.zero_add]; exact hj) Tryz.underlying49 rfl (by kernel_rfl)
theorem load_l (h : Holds W g t) : ∀ w', Below W.heap.size W w' → (Instr.loadAt 42 (.pointer (some ⟨g, 2, none⟩))).run Tryz.prog w' = .ok (.agg #[.int .i64 t.x, .int .i64 t.y, .int .i64 t.z]) w' :=
  fun w' hb => run_loadAt_part g 2 42 _ [.int .i64 t.x, .int .i64 t.y, .int .i64 t.z] (fun j v hj => by rw [add_at, (h.below hb).at_, Nat.add_comm]; exact hj) Tryz.underlying42 rfl (by kernel_rfl)
theorem load_1 (h : Holds W g t) (j : Nat) {v : Int} (hj : t.cells[j]? = some (.int .i64 v)) : ∀ w', Below W.heap.size W w' → (Instr.loadAt 3 (.pointer (some ⟨g, j, none⟩))).run Tryz.prog w' = .ok (.int .i64 v) w' := by
  intro w' hb
  have hc := ((h.below hb).at_ j).trans hj
  go_simp
theorem load_d (h : Holds W g t) : ∀ w', Below W.heap.size W w' → (Instr.loadAt 3 (.pointer (some ⟨g, 0, none⟩))).run Tryz.prog w' = .ok (.int .i64 t.d) w' := load_1 h 0 rfl
theorem load_e (h : Holds W g t) : ∀ w', Below W.heap.size W w' → (Instr.loadAt 3 (.pointer (some ⟨g, 1, none⟩))).run Tryz.prog w' = .ok (.int .i64 t.e) w' := load_1 h 1 rfl
theorem load_x (h : Holds W g t) : ∀ w', Below W.heap.size W w' → (Instr.loadAt 3 (.pointer (some ⟨g, 2, none⟩))).run Tryz.prog w' = .ok (.int .i64 t.x) w' := load_1 h 2 rfl
theorem load_y (h : Holds W g t) : ∀ w', Below W.heap.size W w' → (Instr.loadAt 3 (.pointer (some ⟨g, 3, none⟩))).run Tryz.prog w' = .ok (.int .i64 t.y) w' := load_1 h 3 rfl
theorem load_z (h : Holds W g t) : ∀ w', Below W.heap.size W w' → (Instr.loadAt 3 (.pointer (some ⟨g, 4, none⟩))).run Tryz.prog w' = .ok (.int .i64 t.z) w' := load_1 h 4 rfl
end
end

section
open Go.ChangeShapes Go.WideShapes Go.ChangeAt Go.RowKit Go.BigFrame
set_option maxRecDepth 100000
theorem eq_int (d : Nat) (a b : Int) (w : World) : (Op.equalIn (d + 1) 3 (.int .i64 a) (.int .i64 b)).run Tryz.prog w = .ok (a == b) w := run_equalIn_int w d 3 .i64 .i64 a b Tryz.underlying3
theorem range3 : List.range' 0 3 = [0, 1, 2] := rfl
theorem eq3 (d : Nat) (x y z p q r : Int) (w : World) : (Op.equalIn (d + 2) 42 (.agg #[.int .i64 x, .int .i64 y, .int .i64 z]) (.agg #[.int .i64 p, .int .i64 q, .int .i64 r])).run Tryz.prog w = .ok (decide (x = p ∧ y = q ∧ z = r)) w := by
  have hu := Tryz.underlying42
  have hi : ∀ w, (isAgg 3).run Tryz.prog w = .ok false w := fun w => by go_simp
  unfold Op.equalIn
  simp [run_underlying hu, range3, part, hi, eq_int, Sem.run_bind]
  by_cases h1 : x = p
  · by_cases h2 : y = q
    · by_cases h3 : z = r
      · simp [h1, h2, h3]
      · simp [h1, h2, h3]
    · simp [h1, h2]
  · simp [h1]
theorem dec5 (a b : St) : decide (a = b) = (decide (a.d = b.d) && (decide (a.e = b.e) && decide (a.x = b.x ∧ a.y = b.y ∧ a.z = b.z))) := by
  rw [Bool.eq_iff_iff]
  simp [St.ext_iff']
theorem run_eq5 (a b : St) (w : World) : (Op.equalIn 10000 49 (.agg #[.int .i64 a.d, .int .i64 a.e, .int .i64 a.x, .int .i64 a.y, .int .i64 a.z]) (.agg #[.int .i64 b.d, .int .i64 b.e, .int .i64 b.x, .int .i64 b.y, .int .i64 b.z])).run Tryz.prog w = .ok (decide (a = b)) w := by
  have h := run_equalIn_agg (P := Tryz.prog) w 9999 49 #[.int .i64 a.d, .int .i64 a.e, .int .i64 a.x, .int .i64 a.y, .int .i64 a.z] #[.int .i64 b.d, .int .i64 b.e, .int .i64 b.x, .int .i64 b.y, .int .i64 b.z] (by kernel_rfl) (by kernel_rfl)
  have hf : (Tryz.prog.fieldsOf 49).toList = (Tryz.prog.fieldsOf 48).toList := by kernel_rfl
  rw [h, dec5]
  have e1 := fun a b w => eq_int 9998 a b w
  have e3 := fun x y z p q r w => eq3 9997 x y z p q r w
  have hi : ∀ w, (isAgg 3).run Tryz.prog w = .ok false w := fun w => by go_simp
  have hj : ∀ w, (isAgg 42).run Tryz.prog w = .ok true w := fun w => by go_simp
  have hs : ∀ w, (sizeOf 42).run Tryz.prog w = .ok 3 w := fun w => by go_simp
  obtain ⟨fs, hfs⟩ : ∃ fs, (Tryz.prog.fieldsOf 49).toList = fs := ⟨_, rfl⟩
  rw [hfs]
  have hu := Tryz.underlying49
  simp only [Program.fieldsOf, hu] at hfs
  subst hfs
  simp [Op.eqFields, part, hi, hj, hs, e1, e3, Sem.run_bind, go_sem]
  by_cases h0 : a.d = b.d <;> by_cases h1 : a.e = b.e <;> by_cases h2 : a.x = b.x <;> by_cases h3 : a.y = b.y <;> by_cases h4 : a.z = b.z <;> simp [h0, h1, h2, h3, h4]
section
variable {P : Program} {C : World → Prop} {K : Act → Prop} {a : Act} {o : Oper} {ops : Array Oper}
theorem q_bin {v p q : Value} (op : BinOp) (t u : TypeId) (x y : Operand) (ho : o.op = .binOp op t x y u) (hw : Region.wanted o (yielded ops a.tmps) = true) (hx : a.eval x = p) (hy : a.eval y = q)
    (hr : ∀ w', (do eqGuard op t x y p q; binOp op t p q : Sem Value).run P w' = .ok v w') (hk : K (a.put o.dst v)) :
    if Region.wanted o (yielded ops a.tmps) then o.quiet P a C K else K (a.put o.dst undef) := by
  rw [if_pos hw]
  refine ⟨v, fun w' hw' => ?_, hk⟩
  unfold Oper.quietAt execOp
  simp only [ho, hx, hy]
  rw [Sem.run_bind, hr w']
  simp only [Result.andThen_ok, Sem.run_pure, Oper.quietUpon]
  exact ⟨trivial, trivial⟩
end
def eqL (a b c p q r : Int) : Bool := decide (a = p ∧ b = q ∧ c = r)
def eqB (a b : St) : Bool := decide (a = b)
theorem eq_t (x y : Operand) (a b : St) : ∀ w, (do eqGuard .eql 49 x y (.agg #[.int .i64 a.d, .int .i64 a.e, .int .i64 a.x, .int .i64 a.y, .int .i64 a.z]) (.agg #[.int .i64 b.d, .int .i64 b.e, .int .i64 b.x, .int .i64 b.y, .int .i64 b.z]); binOp .eql 49 (.agg #[.int .i64 a.d, .int .i64 a.e, .int .i64 a.x, .int .i64 a.y, .int .i64 a.z]) (.agg #[.int .i64 b.d, .int .i64 b.e, .int .i64 b.x, .int .i64 b.y, .int .i64 b.z]) : Sem Value).run Tryz.prog w = .ok (.bool (eqB a b)) w := by
  intro w
  rw [Sem.run_bind, run_eqGuard_agg w _ _ _ _ _ _ (by kernel_rfl), Result.andThen_ok, run_eql_struct, run_eq5]
  rfl
theorem ne_t (x y : Operand) (a b : St) : ∀ w, (do eqGuard .neq 49 x y (.agg #[.int .i64 a.d, .int .i64 a.e, .int .i64 a.x, .int .i64 a.y, .int .i64 a.z]) (.agg #[.int .i64 b.d, .int .i64 b.e, .int .i64 b.x, .int .i64 b.y, .int .i64 b.z]); binOp .neq 49 (.agg #[.int .i64 a.d, .int .i64 a.e, .int .i64 a.x, .int .i64 a.y, .int .i64 a.z]) (.agg #[.int .i64 b.d, .int .i64 b.e, .int .i64 b.x, .int .i64 b.y, .int .i64 b.z]) : Sem Value).run Tryz.prog w = .ok (.bool (!eqB a b)) w := by
  intro w
  rw [Sem.run_bind, run_eqGuard_agg w _ _ _ _ _ _ (by kernel_rfl), Result.andThen_ok, run_neq_struct, run_eq5]
  rfl
theorem eq_l (x y : Operand) (a b c p q r : Int) : ∀ w, (do eqGuard .eql 42 x y (.agg #[.int .i64 a, .int .i64 b, .int .i64 c]) (.agg #[.int .i64 p, .int .i64 q, .int .i64 r]); binOp .eql 42 (.agg #[.int .i64 a, .int .i64 b, .int .i64 c]) (.agg #[.int .i64 p, .int .i64 q, .int .i64 r]) : Sem Value).run Tryz.prog w = .ok (.bool (eqL a b c p q r)) w := by
  intro w
  rw [Sem.run_bind, run_eqGuard_agg w _ _ _ _ _ _ (by kernel_rfl), Result.andThen_ok, run_eql_struct, eq3 9998]
  rfl
end

section
open Go.ChangeShapes Go.WideShapes Go.ChangeAt Go.RowKit Go.BigFrame
set_option maxRecDepth 100000
theorem R_near (t : St) (n : Nat) (hd : t.d = n) (h3 : n ≤ 3) (h0 : 0 ≤ t.e) (h1 : t.e < 1000) : (t.x = nk n 0 t.x ∧ t.y = nk n 1 t.y ∧ t.z = nk n 2 t.z) ↔ t.R := by
  have k : ∀ (j : Nat) (v : Int), v = nk n j v ↔ (0 ≤ v ∧ v < 16 ∧ (t.d ≤ j → v = 0)) := by
    intro j v
    unfold nk
    by_cases h : j < n
    · rw [if_pos h, eq_comm, nr_eq]; omega
    · rw [if_neg h]; omega
  rw [k 0, k 1, k 2]
  unfold St.R
  omega
set_option maxHeartbeats 1000000 in
theorem right_any (t : St) (w : World) : Calls Tryz.prog 96 #[t.val] w fun e w' => e = .returned (.bool (decide t.R)) ∧ Below w.heap.size w w' := by
  by_cases hd : t.d < 0 ∨ 3 < t.d ∨ t.e < 0 ∨ 1000 ≤ t.e
  · have hf : decide t.R = false := by rw [decide_eq_false_iff_not]; unfold St.R; omega
    rw [hf]; clear hf
    obtain ⟨d, e, x, y, z⟩ := t
    unfold St.val
    simp only at hd ⊢
    have hcase : d < 0 ∨ (0 ≤ d ∧ 3 < d) ∨ (0 ≤ d ∧ d ≤ 3 ∧ e < 0) ∨ (0 ≤ d ∧ d ≤ 3 ∧ 0 ≤ e ∧ 1000 ≤ e) := by omega
    clear hd
    rcases hcase with h | ⟨h, h2⟩ | ⟨h, h2, h3⟩ | ⟨h, h2, h3, h4⟩
    · have t1 : decide (0 ≤ d) = false := by simp; omega
      have t1' : decide (d ≥ 0) = false := by simp; omega
      go_enter Tryz.func96, Tryz.ntmps96
      go_wp2_with fail
      go_quiet (fail)
      go_wp2_with fail
      go_ret
      exact ⟨rfl, below_drewN ((Below.refl _ _).alloc (Nat.le_refl _) _) _⟩
    · have t1 : decide (d ≤ 3) = false := by simp; omega
      go_enter Tryz.func96, Tryz.ntmps96
      go_wp2_with fail
      go_quiet (fail)
      go_wp2_with fail
      go_ret
      exact ⟨rfl, below_drewN ((Below.refl _ _).alloc (Nat.le_refl _) _) _⟩
    · have t1 : decide (0 ≤ e) = false := by simp; omega
      have t1' : decide (e ≥ 0) = false := by simp; omega
      go_enter Tryz.func96, Tryz.ntmps96
      go_wp2_with fail
      go_quiet (fail)
      go_wp2_with fail
      go_ret
      exact ⟨rfl, below_drewN ((Below.refl _ _).alloc (Nat.le_refl _) _) _⟩
    · have t1 : decide (e < 1000) = false := by simp; omega
      go_enter Tryz.func96, Tryz.ntmps96
      go_wp2_with fail
      go_quiet (fail)
      go_wp2_with fail
      go_ret
      exact ⟨rfl, below_drewN ((Below.refl _ _).alloc (Nat.le_refl _) _) _⟩
  · obtain ⟨n, hn⟩ : ∃ n : Nat, t.d = n := ⟨t.d.toNat, by omega⟩
    have hr := R_near t n hn (by omega) (by omega) (by omega)
    have hcall := fun w => nearest_any t.d t.e t.x t.y t.z n w hn (by omega)
    have hdec : decide t.R = decide (t.x = nk n 0 t.x ∧ t.y = nk n 1 t.y ∧ t.z = nk n 2 t.z) := by rw [decide_eq_decide]; exact hr.symm
    rw [hdec, show decide (t.x = nk n 0 t.x ∧ t.y = nk n 1 t.y ∧ t.z = nk n 2 t.z) = eqL t.x t.y t.z (nk n 0 t.x) (nk n 1 t.y) (nk n 2 t.z) from rfl]; clear hdec hr
    obtain ⟨d, e, x, y, z⟩ := t
    unfold St.val
    simp only at hd hn hcall ⊢
    have g0 : 0 ≤ d := by omega
    have g1 : d ≤ 3 := by omega
    have g2 : 0 ≤ e := by omega
    have g3 : e < 1000 := by omega
    clear hd hn
    generalize nk n 0 x = p at *
    generalize nk n 1 y = q at *
    generalize nk n 2 z = r at *
    have HC := Lib.hid hcall; clear hcall
    go_enter Tryz.func96, Tryz.ntmps96
    go_wp2_with fail
    have hT : Holds (w.alloc (.cells #[.int .i64 d, .int .i64 e, .int .i64 x, .int .i64 y, .int .i64 z] 49)) w.heap.size ⟨d, e, x, y, z⟩ := Holds.made w ⟨d, e, x, y, z⟩
    have HT := Lib.hid hT; clear hT
    refine wp_region_below (by kernel_rfl) (by kernel_rfl) ?_
    repeat (refine wpQuiet_step (fun K hK => ?_); (first
      | ((first
        | (refine q_load (p := .pointer (some ⟨w.heap.size, 0, none⟩)) 49 _ rfl rfl rfl (load_t HT.out) ?_)
        | (refine q_load (p := .pointer (some ⟨w.heap.size, 2, none⟩)) 42 _ rfl rfl rfl (load_l HT.out) ?_)
        | (refine q_load (p := .pointer (some ⟨w.heap.size, 0, none⟩)) 3 _ rfl rfl rfl (load_d HT.out) ?_)
        | (refine q_load (p := .pointer (some ⟨w.heap.size, 1, none⟩)) 3 _ rfl rfl rfl (load_e HT.out) ?_)
        | (refine q_load (p := .pointer (some ⟨w.heap.size, 2, none⟩)) 3 _ rfl rfl rfl (load_x HT.out) ?_)
        | (refine q_load (p := .pointer (some ⟨w.heap.size, 3, none⟩)) 3 _ rfl rfl rfl (load_y HT.out) ?_)
        | (refine q_load (p := .pointer (some ⟨w.heap.size, 4, none⟩)) 3 _ rfl rfl rfl (load_z HT.out) ?_)
        | (refine q_bin _ _ _ _ _ rfl rfl rfl rfl (eq_l _ _ _ _ _ _ _ _) ?_)); go_simp; (with_reducible refine hK _ ?_))
      | (go_simp; (first
        | (with_reducible refine hK _ ?_)
        | (with_reducible refine ⟨_, fun _ _ => rfl, hK _ ?_⟩)
        | (with_reducible refine ⟨_, fun _ hb => (HC.out _).mono fun _ _ h => ⟨h.1, hb.trans (h.2.mono (by simpa using hb.size))⟩, hK _ ?_⟩)))); clear hK K)
    refine wpQuiet_nil ?_
    intro w2 hb2
    go_wp2_with fail
    go_ret
    exact ⟨rfl, ((Below.refl _ _).alloc (Nat.le_refl _) _).trans (hb2.mono (by simp))⟩
end
end Go.Proofs.YtcdofkhkckodjaaGreatDoor
