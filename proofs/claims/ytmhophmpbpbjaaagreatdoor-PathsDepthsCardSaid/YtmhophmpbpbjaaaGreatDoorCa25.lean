/- OrdMath, ChkRun, PlMath, SmApplyN, SmApplyR, FrTs, FrReach, FrOps -/
import Derived.Test.YtmhophmpbpbjaaaGreatDoorCa8
import Derived.Test.YtmhophmpbpbjaaaGreatDoorCa24
import Derived.Test.YtmhophmpbpbjaaaGreatDoorCa3
import Derived.Test.YtmhophmpbpbjaaaGreatDoorCa22
import Derived.Test.YtmhophmpbpbjaaaGreatDoorCa9
import Derived.Shelf.Abstract
namespace Go.Proofs.YtmhophmpbpbjaaaGreatDoor
set_option linter.unusedVariables false
section
def MayNext (g : List Nd) (T : List Nat) (i : Nat) : Prop := i ∉ T ∧ ∃ x, g[i]? = some x ∧ (x.k = 9 ∨ ∀ z ∈ x.ins, 0 ≤ z ∧ z.toNat ∈ T)
noncomputable def nextO (g : List Nd) (T : List Nat) : Option Nat := firstP (MayNext g T) g.length
def OrdT (g : List Nd) (T : List Nat) : Prop := ∀ (j i : Nat), T[j]? = some i → nextO g (T.take j) = some i
theorem nextO_lt {g : List Nd} {T : List Nat} {i : Nat} (h : nextO g T = some i) : i < g.length ∧ MayNext g T i := ⟨(firstP_some.1 h).1, (firstP_some.1 h).2.1⟩
theorem OrdT.take {g : List Nd} {T : List Nat} (h : OrdT g T) (n : Nat) : OrdT g (T.take n) := fun j i hi => by
  rw [List.getElem?_take] at hi
  split at hi
  · rw [List.take_take, Nat.min_eq_left (by omega)]
    exact h j i hi
  · cases hi
theorem OrdT.lt {g : List Nd} {T : List Nat} (h : OrdT g T) : ∀ x ∈ T, x < g.length := fun x hx => by
  obtain ⟨j, hj⟩ := List.getElem?_of_mem hx
  exact (nextO_lt (h j x hj)).1
theorem OrdT.nodup {g : List Nd} : ∀ {T : List Nat}, OrdT g T → T.Nodup := by
  intro T h
  rw [List.Nodup, List.pairwise_iff_getElem]
  intro i j hi hj hij e
  have h1 := (nextO_lt (h j T[j] (List.getElem?_eq_getElem hj))).2.1
  apply h1
  rw [← e]
  exact List.mem_of_getElem? (i := i) (by rw [List.getElem?_take, if_pos hij, List.getElem?_eq_getElem hi])
end

section
instance (n : Nd) : Decidable n.May := inferInstanceAs (Decidable ((0 ≤ n.d ∧ n.d ≤ 3) ∧ n.ins.length ≤ 2 ∧ ∀ x ∈ n.ins, 0 ≤ x ∧ x ≤ 31))
instance (g : List Nd) : Decidable (GMay g) := inferInstanceAs (Decidable ((1 ≤ g.length ∧ g.length ≤ 32) ∧ ∀ n ∈ g, n.May))
theorem putE_ok {g : List Nd} (h : GMay g) : putE g = 0 := by
  have h1 := h.1
  unfold putE
  rw [if_neg (by omega), if_pos (mayB_iff.2 h)]
def portC (g : List Nd) (z : Int) : Bool := decide (0 ≤ z) && match g[z.toNat]? with | some m => decide (m.k ≠ 10) | none => false
def errC (g : List Nd) (n : Nd) : Int :=
  if n.num = false then 130
  else if (n.ins.all (portC g) && decide (n.ins.length = n.want)) = false then 100
  else if (n.deepB && n.ins.all fun z => match g[z.toNat]? with | some m => decide (n.d - n.more = m.d) | none => true) = false then 101 else 0
theorem portC_iff {g : List Nd} {z : Int} : portC g z = true ↔ portOk g z := by
  unfold portC portOk
  cases h : g[z.toNat]? with
  | none => simp
  | some m => simp
theorem errC_is (g : List Nd) (n : Nd) : n.err g = errC g n := by
  have hp : (n.ins.all (portC g) && decide (n.ins.length = n.want)) = true ↔ n.Ports g := by
    unfold Nd.Ports
    rw [Bool.and_eq_true, List.all_eq_true, decide_eq_true_iff]
    exact ⟨fun h => ⟨fun z hz => portC_iff.1 (h.1 z hz), h.2⟩, fun h => ⟨fun z hz => portC_iff.2 (h.1 z hz), h.2⟩⟩
  have hd : (n.deepB && n.ins.all fun z => match g[z.toNat]? with | some m => decide (n.d - n.more = m.d) | none => true) = true ↔ n.Deep g := by
    unfold Nd.Deep
    rw [Bool.and_eq_true, List.all_eq_true]
    constructor
    · rintro ⟨h1, h2⟩
      refine ⟨h1, fun z hz m hm => ?_⟩
      have := h2 z hz
      rw [hm] at this
      simpa using this
    · rintro ⟨h1, h2⟩
      refine ⟨h1, fun z hz => ?_⟩
      cases hm : g[z.toNat]? with
      | none => rfl
      | some m => simpa using h2 z hz m hm
  unfold errC
  by_cases h1 : n.num = false
  · rw [err_num h1, if_pos h1]
  · rw [if_neg h1]
    have h1' : n.num = true := by simpa using h1
    by_cases h2 : n.Ports g
    · rw [if_neg (by rw [hp.2 h2]; simp)]
      by_cases h3 : n.Deep g
      · rw [if_neg (by rw [hd.2 h3]; simp), err_ok h1' h2 h3]
      · rw [if_pos (by rw [← Bool.not_eq_true]; exact fun h => h3 (hd.1 h)), err_deep h1' h2 h3]
    · rw [if_pos (by rw [← Bool.not_eq_true]; exact fun h => h2 (hp.1 h)), err_ports h1' h2]
def nodeC (g : List Nd) (i : Nat) : Int := match g[i]? with | some n => errC g n | none => 2
theorem nodeC_is (g : List Nd) (i : Nat) : nodeE g (i : Nat) = nodeC g i := by
  unfold nodeC
  cases h : g[i]? with
  | some n => rw [nodeE_at h, errC_is]
  | none => exact nodeE_out (.inr (by have := List.getElem?_eq_none_iff.1 h; omega))
def succs (g : List Nd) (least : Int) (s : Nat) : List Nat :=
  (List.range g.length).filterMap fun n => match g[n]? with | some x => if (x.ins.contains ((s / 2 : Nat) : Int) && x.stays least) = true then some (nextC least s n x) else none | none => none
theorem mem_succs {g : List Nd} {least : Int} {s t : Nat} : t ∈ succs g least s ↔ StepN g least s t := by
  unfold succs StepN
  rw [List.mem_filterMap]
  constructor
  · rintro ⟨n, hn, h⟩
    cases hx : g[n]? with
    | none => rw [hx] at h; cases h
    | some x =>
      rw [hx] at h
      simp only at h
      split at h
      · rename_i hc
        injection h with h
        subst h
        rw [Bool.and_eq_true, List.contains_iff_mem] at hc
        exact ⟨x, by rw [nextC_half]; exact hx, hc.1, hc.2, by rw [nextC_half]; rfl⟩
      · cases h
  · rintro ⟨x, hx, hin, hs, ht⟩
    refine ⟨t / 2, List.mem_range.2 (List.getElem?_eq_some_iff.1 hx).1, ?_⟩
    rw [hx]
    simp only
    rw [if_pos (by rw [Bool.and_eq_true, List.contains_iff_mem]; exact ⟨hin, hs⟩)]
    congr 1
    exact ht.symm
def chkReachC (g : List Nd) (least : Int) : Nat → List Nat → List Nat
  | 0, S => S
  | k + 1, S => chkReachC g least k (S.foldl (fun S s => (succs g least s).foldl (fun S t => if S.contains t then S else S ++ [t]) S) S)
def closedC (g : List Nd) (least : Int) (first tgt : Nat) (S : List Nat) : Bool := (succs g least first).all (fun t => S.contains t) && S.all (fun s => (succs g least s).all fun t => S.contains t) && !S.contains tgt
theorem closedC_no {g : List Nd} {least : Int} {first tgt : Nat} {S : List Nat} (h : closedC g least first tgt S = true) : ¬ ReachN g least first tgt := by
  unfold closedC at h
  rw [Bool.and_eq_true, Bool.and_eq_true] at h
  obtain ⟨⟨h1, h2⟩, h3⟩ := h
  have h1' : ∀ t ∈ succs g least first, t ∈ S := fun t ht => List.contains_iff_mem.1 (List.all_eq_true.1 h1 t ht)
  have h2' : ∀ s ∈ S, ∀ t ∈ succs g least s, t ∈ S := fun s hs t ht => List.contains_iff_mem.1 (List.all_eq_true.1 (List.all_eq_true.1 h2 s hs) t ht)
  have key : ∀ t, ReachN g least first t → t ∈ S := by
    intro t ht
    induction ht with
    | one hs => exact h1' _ (mem_succs.2 hs)
    | more _ hs ih => exact h2' _ ih _ (mem_succs.2 hs)
  intro hr
  have := List.contains_iff_mem.2 (key tgt hr)
  rw [this] at h3; cases h3
def goodC (g : List Nd) (i : Nat) : Bool := match g[i]? with
  | none => true
  | some x => decide (x.d ≤ 3) && (List.range 4).all fun least => decide (x.d < (least : Int)) || !x.stays least || closedC g least (startN x i least) (2 * i + 1) (chkReachC g least (2 * g.length) (succs g least (startN x i least)))
theorem goodC_no {g : List Nd} {i : Nat} (h : goodC g i = true) : ¬ BadAt g i := by
  rintro ⟨x, hx, least, h0, hd, y, hy, hs, hr⟩
  rw [hx] at hy; injection hy with hy; subst hy
  unfold goodC at h
  rw [hx] at h
  simp only [Bool.and_eq_true, decide_eq_true_eq, List.all_eq_true] at h
  obtain ⟨L, rfl⟩ : ∃ L : Nat, least = (L : Int) := Int.eq_ofNat_of_zero_le h0
  have h2 := h.2 L (List.mem_range.2 (by omega))
  simp only [Bool.or_eq_true, decide_eq_true_eq, Bool.not_eq_true'] at h2
  rcases h2 with (h2 | h2) | h2
  · omega
  · rw [hs] at h2; cases h2
  · exact closedC_no h2 hr
def okC (g : List Nd) : Bool := (List.range g.length).all (fun i => decide (nodeC g i = 0)) && (List.range g.length).all (goodC g)
theorem okC_check {g : List Nd} (hm : GMay g) (h : okC g = true) : checkR g = ((g.length : Int), 0) := by
  unfold okC at h
  rw [Bool.and_eq_true, List.all_eq_true, List.all_eq_true] at h
  refine checkR_ok (putE_ok hm) (fun j hj => ?_) fun j hj => goodC_no (h.2 j (List.mem_range.2 hj))
  have := h.1 j (List.mem_range.2 hj)
  rw [nodeC_is]; simpa using this
end

section
set_option maxRecDepth 100000
def covB (g : List Nd) (i : Nat) (L : List (Nat × Sm)) : Bool :=
  (match g[i]? with
    | none => true
    | some x => (toG ((i : Nat) : Int) 0 g).all fun p => L.any fun a => decide (a.1 = p.1 ∧ a.2.L (idS x.d))) &&
  L.all fun a => match g[a.1]? with
    | none => true
    | some x => if x.smOk ∧ a.2.thenOk x.sm then (toG ((a.1 : Nat) : Int) 0 g).all fun p => L.any fun b => decide (b.1 = p.1 ∧ b.2.L (a.2.seq x.sm)) else true
def oneB (g : List Nd) (i : Nat) (acc : List (Nat × Sm)) (a : Nat × Sm) : Bool :=
  (match g[i]? with
    | none => false
    | some x => decide (a.2 = idS x.d) && (toG ((i : Nat) : Int) 0 g).any fun p => decide (p.1 = a.1)) ||
  acc.any fun b => match g[b.1]? with
    | none => false
    | some x => decide (x.smOk ∧ b.2.thenOk x.sm ∧ a.2 = b.2.seq x.sm) && (toG ((b.1 : Nat) : Int) 0 g).any fun p => decide (p.1 = a.1)
def arrB (g : List Nd) (i : Nat) : List (Nat × Sm) → List (Nat × Sm) → Bool
  | _, [] => true
  | acc, a :: l => oneB g i acc a && arrB g i (a :: acc) l
section
variable {g : List Nd} {i n : Nat} {L acc : List (Nat × Sm)} {s : Sm}
theorem fd_any {j m : Nat} (h : ((toG ((j : Nat) : Int) 0 g).any fun p => decide (p.1 = m)) = true) : Fd g j m := by
  obtain ⟨p, hp, e⟩ := List.any_eq_true.1 h
  exact toG_fd.1 ⟨p, hp, of_decide_eq_true e⟩
theorem one_arr {a : Nat × Sm} (hacc : ∀ b ∈ acc, Arr g i b.1 b.2) (h : oneB g i acc a = true) : Arr g i a.1 a.2 := by
  unfold oneB at h
  rcases Bool.or_eq_true_iff.1 h with h | h
  · cases hx : g[i]? with
    | none => rw [hx] at h; cases h
    | some x =>
      rw [hx] at h
      obtain ⟨h1, h2⟩ := Bool.and_eq_true_iff.1 h
      rw [of_decide_eq_true h1]
      exact .first hx (fd_any h2)
  · obtain ⟨b, hb, h⟩ := List.any_eq_true.1 h
    cases hx : g[b.1]? with
    | none => rw [hx] at h; cases h
    | some x =>
      rw [hx] at h
      obtain ⟨h1, h2⟩ := Bool.and_eq_true_iff.1 h
      obtain ⟨h3, h4, h5⟩ := of_decide_eq_true h1
      rw [h5]
      exact .on (hacc b hb) hx h3 h4 (fd_any h2)
theorem arr_all : ∀ (l acc : List (Nat × Sm)), (∀ b ∈ acc, Arr g i b.1 b.2) → arrB g i acc l = true → ∀ b ∈ l, Arr g i b.1 b.2
  | [], acc, _, _ => fun b hb => by cases hb
  | a :: l, acc, hacc, h => by
    unfold arrB at h
    obtain ⟨h1, h2⟩ := Bool.and_eq_true_iff.1 h
    have ha := one_arr hacc h1
    have hacc' : ∀ b ∈ a :: acc, Arr g i b.1 b.2 := fun b hb => by
      rcases List.mem_cons.1 hb with rfl | hb
      · exact ha
      · exact hacc b hb
    intro b hb
    rcases List.mem_cons.1 hb with rfl | hb
    · exact ha
    · exact arr_all l (a :: acc) hacc' h2 b hb
theorem cov_any {m : Nat} {u : Sm} {j : Nat} (h : ((toG ((j : Nat) : Int) 0 g).all fun p => L.any fun a => decide (a.1 = p.1 ∧ a.2.L u)) = true) (hf : Fd g j m) : ∃ t, (m, t) ∈ L ∧ t.L u := by
  obtain ⟨p, hp, rfl⟩ := toG_fd.2 hf
  obtain ⟨a, ha, e⟩ := List.any_eq_true.1 (List.all_eq_true.1 h p hp)
  obtain ⟨e1, e2⟩ := of_decide_eq_true e
  exact ⟨a.2, by rw [← e1]; exact ha, e2⟩
theorem cov_of (h : covB g i L = true) (k : arrB g i [] L = true) : Cov g i (fun n s => (n, s) ∈ L) where
  sound := fun n s hs => arr_all L [] (fun b hb => by cases hb) k (n, s) hs
  first := fun n x hx hf => by
    obtain ⟨h1, _⟩ := Bool.and_eq_true_iff.1 h
    rw [hx] at h1
    exact cov_any h1 hf
  on := fun n m s x hs hx ho ht hf => by
    obtain ⟨_, h2⟩ := Bool.and_eq_true_iff.1 h
    have h3 := List.all_eq_true.1 h2 (n, s) hs
    simp only at h3
    rw [hx] at h3
    simp only [if_pos (show x.smOk ∧ s.thenOk x.sm from ⟨ho, ht⟩)] at h3
    exact cov_any h3 hf
theorem WaysOf.is {l : List Sm} (hc : Cov g i (fun n s => (n, s) ∈ L)) (h : WaysOf g (i : Nat) (n : Nat) l) (hi : i < g.length) (hn : n < g.length) : l = waysS (atA n L) := by
  rcases h with ⟨i', n', T, D, e1, e2, _, _, hr, hl⟩ | ⟨hno, _⟩
  · obtain rfl : i = i' := by omega
    obtain rfl : n = n' := by omega
    have hp := hr.coverP
    have hall : ∀ x ∈ atA n L ++ l, Arr g i n x := fun x hx => by
      rcases List.mem_append.1 hx with hx | hx
      · exact hc.sound n x (mem_atA.1 hx)
      · exact hr.dsound n x (hr.sub n l x hl hx)
    have e1 : waysS l = waysS (atA n L ++ l) := waysS_cover (fun x hx => List.mem_append_right _ hx) fun x hx _ => by
      obtain ⟨t, ⟨l', hl', ht⟩, htl⟩ := hp.covers (hall x hx)
      rw [hl] at hl'; cases hl'
      exact ⟨t, ht, htl⟩
    have e2 : waysS (atA n L) = waysS (atA n L ++ l) := waysS_cover (fun x hx => List.mem_append_left _ hx) fun x hx _ => by
      obtain ⟨t, ht, htl⟩ := hc.covers (hall x hx)
      exact ⟨t, mem_atA.2 ht, htl⟩
    rw [← hr.self n l hl, e1, e2]
  · exact absurd ⟨⟨by omega, by omega⟩, by omega, by omega⟩ hno
end
/-! the law's own graph -/
def wayN : List Nd := [⟨1, 0, 0, 0, []⟩, ⟨7, 0, 0, 1, [0]⟩, ⟨4, 0, 0, 1, [1, 3]⟩, ⟨9, 0, 2, 1, [2]⟩, ⟨8, 0, 0, 0, [2]⟩, ⟨10, 0, 0, 0, [4]⟩]
theorem ex_way : checkR wayN = (6, 0) := okC_check (by decide) (by decide +kernel)
def way0 : List (Nat × Sm) := [(1, ⟨0, 0, 0, 0, 0, 0, 0⟩), (2, ⟨0, 1, 0, 0, 0, 0, 0⟩), (3, ⟨0, 1, 0, 0, 0, 0, 0⟩), (4, ⟨0, 1, 0, 0, 0, 0, 0⟩), (5, ⟨0, 0, 0, 0, 0, 0, 0⟩)]
def way2 : List (Nat × Sm) := [(3, ⟨1, 1, 1, 0, 0, 0, 0⟩), (4, ⟨1, 1, 1, 0, 0, 0, 0⟩), (2, ⟨1, 1, 1, 1, 0, 0, 0⟩), (5, ⟨1, 0, 0, 0, 0, 0, 0⟩)]
theorem cov0 : Cov wayN 0 (fun n s => (n, s) ∈ way0) := cov_of (by decide +kernel) (by decide +kernel)
theorem cov2 : Cov wayN 2 (fun n s => (n, s) ∈ way2) := cov_of (by decide +kernel) (by decide +kernel)
theorem cov5 : Cov wayN 5 (fun n s => (n, s) ∈ ([] : List (Nat × Sm))) := cov_of (by decide +kernel) (by decide +kernel)
theorem ex_01 {l : List Sm} (h : WaysOf wayN 0 1 l) : l = [⟨0, 0, 0, 0, 0, 0, 0⟩] := (WaysOf.is (n := 1) cov0 h (by decide) (by decide)).trans (by decide +kernel)
theorem ex_02 {l : List Sm} (h : WaysOf wayN 0 2 l) : l = [⟨0, 1, 0, 0, 0, 0, 0⟩] := (WaysOf.is (n := 2) cov0 h (by decide) (by decide)).trans (by decide +kernel)
theorem ex_22 {l : List Sm} (h : WaysOf wayN 2 2 l) : l = [⟨1, 1, 1, 1, 0, 0, 0⟩] := (WaysOf.is (n := 2) cov2 h (by decide) (by decide)).trans (by decide +kernel)
theorem ex_25 {l : List Sm} (h : WaysOf wayN 2 5 l) : l = [⟨1, 0, 0, 0, 0, 0, 0⟩] := (WaysOf.is (n := 5) cov2 h (by decide) (by decide)).trans (by decide +kernel)
theorem ex_50 {l : List Sm} (h : WaysOf wayN 5 0 l) : l = [] := (WaysOf.is (n := 0) cov5 h (by decide) (by decide)).trans rfl
theorem ex_c25 : ofS (appS ⟨1, 4, 2, 0, 0⟩ [⟨1, 0, 0, 0, 0, 0, 0⟩]) = [⟨0, 4, 0, 0, 0⟩] := by decide +kernel
theorem ex_c02 : ofS (appS ⟨0, 4, 0, 0, 0⟩ [⟨0, 1, 0, 0, 0, 0, 0⟩]) = [⟨1, 4, 0, 0, 0⟩] := by decide +kernel
end

section
open Go.ChangeShapes Go.WideShapes Go.ChangeAt Go.RowKit Go.BigFrame
set_option maxRecDepth 100000
set_option maxHeartbeats 1000000 in
theorem apply_A (s : Sm) (t : St) (w : World) (h : ¬ s.R) : Calls Tryz.prog 46 #[s.v, t.val] w fun e w' => e = .returned (.tuple #[(s.ap t).val, .bool (s.apB t)]) ∧ Below w.heap.size w w' := by
  have h3 := Trio.made w 44 s t
  have hbw := below_alloc3 w (.cells #[.int .i64 s.fr, .int .i64 s.to, .int .i64 s.kp, .int .i64 s.ad, .int .i64 s.t0, .int .i64 s.t1, .int .i64 s.t2] 44) (.cells #[.int .i64 t.d, .int .i64 t.e, .int .i64 t.x, .int .i64 t.y, .int .i64 t.z] 49) (.cells #[.int .i64 0, .int .i64 0, .int .i64 0, .int .i64 0, .int .i64 0] 49)
  obtain ⟨q1, q2⟩ := Sm.ap_no (s := s) (t := t) (fun g => h g.1)
  rw [q1, q2]; clear q1 q2
  have H3 := Lib.hid h3; have HB := Lib.hid hbw; clear h3 hbw
  have r1 := fun w => rightM_false h w
  have R1 := Lib.hid r1; clear r1 h
  unfold Sm.v St.val at *
  go_enter Tryz.func46, Tryz.ntmps46
  go_wp2_with fail
  refine (R1.out _).mono ?_; rintro e w2 ⟨rfl, hb2⟩
  have k3 := H3.out.below hb2
  have kb := HB.out.trans (hb2.mono HB.out.size); clear H3 HB
  have H3 := Lib.hid k3; have HB := Lib.hid kb; clear k3 kb hb2
  obtain ⟨f0, f1, f2, f3, f4⟩ := H3.out.2.2.f5
  obtain ⟨z0, z1, z2, z3, z4⟩ := H3.out.2.2.c5
  go_wp2_with fail
  refine bodyPost_ret (v := .tuple #[.agg #[.int .i64 0, .int .i64 0, .int .i64 0, .int .i64 0, .int .i64 0], .bool false]) (two_results rfl _ _ _ 49 _ (0, 0) _ rfl (row_set5' H3.out.2.2) Tryz.underlying49 rfl (by kernel_rfl) rfl) rfl ?_
  exact ⟨rfl, below_set5' HB.out (by omega)⟩
set_option maxHeartbeats 1000000 in
theorem apply_B (s : Sm) (t : St) (w : World) (h : s.R) (h2 : ¬ t.R) : Calls Tryz.prog 46 #[s.v, t.val] w fun e w' => e = .returned (.tuple #[(s.ap t).val, .bool (s.apB t)]) ∧ Below w.heap.size w w' := by
  have h3 := Trio.made w 44 s t
  have hbw := below_alloc3 w (.cells #[.int .i64 s.fr, .int .i64 s.to, .int .i64 s.kp, .int .i64 s.ad, .int .i64 s.t0, .int .i64 s.t1, .int .i64 s.t2] 44) (.cells #[.int .i64 t.d, .int .i64 t.e, .int .i64 t.x, .int .i64 t.y, .int .i64 t.z] 49) (.cells #[.int .i64 0, .int .i64 0, .int .i64 0, .int .i64 0, .int .i64 0] 49)
  obtain ⟨q1, q2⟩ := Sm.ap_no (s := s) (t := t) (fun g => h2 g.2.1)
  rw [q1, q2]; clear q1 q2
  have H3 := Lib.hid h3; have HB := Lib.hid hbw; clear h3 hbw
  have r1 := fun w => rightM_true h w
  have r2 := fun w => right_false h2 w
  have R1 := Lib.hid r1; have R2 := Lib.hid r2; clear r1 r2 h h2
  unfold Sm.v St.val at *
  go_enter Tryz.func46, Tryz.ntmps46
  go_wp2_with fail
  refine (R1.out _).mono ?_; rintro e w2 ⟨rfl, hb2⟩
  have k3 := H3.out.below hb2
  have kb := HB.out.trans (hb2.mono HB.out.size); clear H3 HB
  have H3 := Lib.hid k3; have HB := Lib.hid kb; clear k3 kb hb2
  obtain ⟨a0, a1, a2, a3, a4⟩ := H3.out.2.1.c5
  obtain ⟨b0, b1, b2, b3, b4, b5, b6⟩ := H3.out.1.cells7
  go_wp2_with fail
  clear a0 a1 a2 a3 a4 b0 b1 b2 b3 b4 b5 b6
  refine (R2.out _).mono ?_; rintro e w3 ⟨rfl, hb3⟩
  have k3 := H3.out.below hb3
  have kb := HB.out.trans (hb3.mono HB.out.size); clear H3 HB
  have H3 := Lib.hid k3; have HB := Lib.hid kb; clear k3 kb hb3
  obtain ⟨f0, f1, f2, f3, f4⟩ := H3.out.2.2.f5
  obtain ⟨z0, z1, z2, z3, z4⟩ := H3.out.2.2.c5
  go_wp2_with fail
  refine bodyPost_ret (v := .tuple #[.agg #[.int .i64 0, .int .i64 0, .int .i64 0, .int .i64 0, .int .i64 0], .bool false]) (two_results rfl _ _ _ 49 _ (0, 0) _ rfl (row_set5' H3.out.2.2) Tryz.underlying49 rfl (by kernel_rfl) rfl) rfl ?_
  exact ⟨rfl, below_set5' HB.out (by omega)⟩
set_option maxHeartbeats 1000000 in
theorem apply_C (s : Sm) (t : St) (w : World) (h : s.R) (h2 : t.R) (hd : ¬ t.d = s.fr) : Calls Tryz.prog 46 #[s.v, t.val] w fun e w' => e = .returned (.tuple #[(s.ap t).val, .bool (s.apB t)]) ∧ Below w.heap.size w w' := by
  have h3 := Trio.made w 44 s t
  have hbw := below_alloc3 w (.cells #[.int .i64 s.fr, .int .i64 s.to, .int .i64 s.kp, .int .i64 s.ad, .int .i64 s.t0, .int .i64 s.t1, .int .i64 s.t2] 44) (.cells #[.int .i64 t.d, .int .i64 t.e, .int .i64 t.x, .int .i64 t.y, .int .i64 t.z] 49) (.cells #[.int .i64 0, .int .i64 0, .int .i64 0, .int .i64 0, .int .i64 0] 49)
  obtain ⟨q1, q2⟩ := Sm.ap_no (s := s) (t := t) (fun g => hd g.2.2.1)
  rw [q1, q2]; clear q1 q2
  have H3 := Lib.hid h3; have HB := Lib.hid hbw; clear h3 hbw
  have r1 := fun w => rightM_true h w
  have r2 := fun w => right_true h2 w
  have hn : (t.d != s.fr) = true := by simpa using hd
  have R1 := Lib.hid r1; have R2 := Lib.hid r2; clear r1 r2 h h2 hd
  unfold Sm.v St.val at *
  go_enter Tryz.func46, Tryz.ntmps46
  go_wp2_with fail
  refine (R1.out _).mono ?_; rintro e w2 ⟨rfl, hb2⟩
  have k3 := H3.out.below hb2
  have kb := HB.out.trans (hb2.mono HB.out.size); clear H3 HB
  have H3 := Lib.hid k3; have HB := Lib.hid kb; clear k3 kb hb2
  obtain ⟨a0, a1, a2, a3, a4⟩ := H3.out.2.1.c5
  obtain ⟨b0, b1, b2, b3, b4, b5, b6⟩ := H3.out.1.cells7
  go_wp2_with fail
  clear a0 a1 a2 a3 a4 b0 b1 b2 b3 b4 b5 b6
  refine (R2.out _).mono ?_; rintro e w3 ⟨rfl, hb3⟩
  have k3 := H3.out.below hb3
  have kb := HB.out.trans (hb3.mono HB.out.size); clear H3 HB
  have H3 := Lib.hid k3; have HB := Lib.hid kb; clear k3 kb hb3
  obtain ⟨a0, a1, a2, a3, a4⟩ := H3.out.2.1.c5
  obtain ⟨b0, b1, b2, b3, b4, b5, b6⟩ := H3.out.1.cells7
  obtain ⟨f0, f1, f2, f3, f4⟩ := H3.out.2.2.f5
  obtain ⟨z0, z1, z2, z3, z4⟩ := H3.out.2.2.c5
  go_wp2_with fail
  refine bodyPost_ret (v := .tuple #[.agg #[.int .i64 0, .int .i64 0, .int .i64 0, .int .i64 0, .int .i64 0], .bool false]) (two_results rfl _ _ _ 49 _ (0, 0) _ rfl (row_set5' H3.out.2.2) Tryz.underlying49 rfl (by kernel_rfl) rfl) rfl ?_
  exact ⟨rfl, below_set5' HB.out (by omega)⟩
end

section
open Go.ChangeShapes Go.WideShapes Go.ChangeAt Go.RowKit Go.BigFrame
set_option maxRecDepth 100000
end

section
open Go.ChangeShapes Go.WideShapes Go.ChangeAt Go.RowKit Go.BigFrame
set_option maxRecDepth 100000
def Ts (w : World) (A : Option Addr) (ts : List St) : Prop :=
  0 < ts.length → ∃ b o, A = some ⟨b, o, none⟩ ∧ b < w.heap.size ∧ ∀ (j : Nat) (u : Value), (rowS ts)[j]? = some u → w.cell? ⟨b, o + j, none⟩ = some u
section
variable {w w' : World} {A : Option Addr} {ts : List St}
theorem Ts.below (h : Ts w A ts) (hb : Below w.heap.size w w') : Ts w' A ts := fun hn => by
  obtain ⟨b, o, e, hlt, hc⟩ := h hn
  exact ⟨b, o, e, Nat.lt_of_lt_of_le hlt hb.size, fun j u hu => (hb.cell (p := ⟨b, o + j, none⟩) hlt).trans (hc j u hu)⟩
theorem Ts.nil : Ts w A [] := fun h => absurd h (by simp)
theorem Ts.of (h : Times w A ts) : Ts w A ts := fun hn => by
  obtain ⟨b, e, hlt, hc⟩ := h hn
  exact ⟨b, 0, e, hlt, fun j u hu => by rw [Nat.zero_add]; exact hc j u hu⟩
theorem rowS_take (ts : List St) (k : Nat) : rowS (ts.take k) = (rowS ts).take (k * 5) := by
  induction ts generalizing k with
  | nil => simp [rowS]
  | cons t ts ih =>
    cases k with
    | zero => simp [rowS]
    | succ k => rw [List.take_succ_cons, rowS_cons, rowS_cons, ih, show (k + 1) * 5 = k * 5 + 1 + 1 + 1 + 1 + 1 by omega]; simp only [List.take_succ_cons]
theorem Ts.take (h : Ts w A ts) (k : Nat) : Ts w A (ts.take k) := fun hn => by
  obtain ⟨b, o, e, hlt, hc⟩ := h (by rw [List.length_take] at hn; omega)
  refine ⟨b, o, e, hlt, fun j u hu => hc j u ?_⟩
  rw [rowS_take, List.getElem?_take] at hu
  split at hu
  · exact hu
  · cases hu
theorem run_load_st (w : World) (b o : Nat) (t : St) (h : ∀ j v, t.cells[j]? = some v → w.cell? ⟨b, o + j, none⟩ = some v) :
    (Instr.loadAt 49 (.pointer (some ⟨b, o, none⟩))).run Tryz.prog w = .ok (.agg #[.int .i64 t.d, .int .i64 t.e, .int .i64 t.x, .int .i64 t.y, .int .i64 t.z]) w :=
  run_loadAt_part b o 49 _ t.cells (fun j v hj => by rw [add_at]; exact h j v hj) Tryz.underlying49 rfl (by kernel_rfl)
theorem Ts.load (h : Ts w A ts) {i : Nat} {t : St} (hi : ts[i]? = some t) : ∃ b o, A = some ⟨b, o, none⟩ ∧ b < w.heap.size ∧
    ∀ w', Below w.heap.size w w' → (Instr.loadAt 49 (.pointer (some ⟨b, o + i * 5, none⟩))).run Tryz.prog w' = .ok (.agg #[.int .i64 t.d, .int .i64 t.e, .int .i64 t.x, .int .i64 t.y, .int .i64 t.z]) w' := by
  obtain ⟨hl, _⟩ := List.getElem?_eq_some_iff.1 hi
  obtain ⟨b, o, e, hlt, hc⟩ := h (by omega)
  refine ⟨b, o, e, hlt, fun w' hb => run_load_st _ _ _ _ fun j v hj => ?_⟩
  rw [hb.cell (p := ⟨b, o + i * 5 + j, none⟩) hlt, Nat.add_assoc]
  exact hc _ v (rowS_at ts i t hi j v hj)
theorem Ts.five (h : Ts w A ts) {i : Nat} {t : St} (hi : ts[i]? = some t) : ∃ b o, A = some ⟨b, o, none⟩ ∧ b < w.heap.size ∧
    ∀ w', Below w.heap.size w w' → w'.cell? ⟨b, o + i * 5, none⟩ = some (.int .i64 t.d) ∧ w'.cell? ⟨b, o + i * 5 + 1, none⟩ = some (.int .i64 t.e) ∧ w'.cell? ⟨b, o + i * 5 + 2, none⟩ = some (.int .i64 t.x) ∧ w'.cell? ⟨b, o + i * 5 + 3, none⟩ = some (.int .i64 t.y) ∧ w'.cell? ⟨b, o + i * 5 + 4, none⟩ = some (.int .i64 t.z) := by
  obtain ⟨hl, _⟩ := List.getElem?_eq_some_iff.1 hi
  obtain ⟨b, o, e, hlt, hc⟩ := h (by omega)
  refine ⟨b, o, e, hlt, fun w' hb => ?_⟩
  have key : ∀ j v, t.cells[j]? = some v → w'.cell? ⟨b, o + i * 5 + j, none⟩ = some v := fun j v hj => by
    rw [hb.cell (p := ⟨b, o + i * 5 + j, none⟩) hlt, Nat.add_assoc]
    exact hc _ v (rowS_at ts i t hi j v hj)
  exact ⟨key 0 _ rfl, key 1 _ rfl, key 2 _ rfl, key 3 _ rfl, key 4 _ rfl⟩
end
def Tells (g : Nat) (lb : Array Value) (p : St → Bool) (w : World) : Prop :=
  ∀ (W : World) (x : St), Below w.heap.size w W → Calls Tryz.prog g (#[x.val] ++ lb) W fun e w' => e = .returned (.bool (p x)) ∧ Below W.heap.size W w'
theorem any_false {p : St → Bool} {ts : List St} : ts.any p = false ↔ ∀ (j : Nat) (t : St), ts[j]? = some t → p t = false := by
  rw [List.any_eq_false]
  constructor
  · intro h j t ht
    have := h t (List.mem_of_getElem? ht)
    simpa using this
  · intro h t ht
    obtain ⟨j, hj⟩ := List.getElem?_of_mem ht
    rw [h j t hj]; simp
theorem indexFunc_any (A : Option Addr) (ts : List St) (c g : Nat) (lb : Array Value) (p : St → Bool) (w : World) (hT : Ts w A ts) (hn : ts.length ≤ 5000000)
    (eg : ∀ args w, (callFunc g args).run Tryz.prog w = .ok (.enter g args) w) (hp : 0 < ts.length → Tells g lb p w) :
    Calls Tryz.prog 109 #[.slice A ts.length c, .func (.func g) #[] lb] w fun e w' => (∃ i : Int, e = .returned (.int .i64 i) ∧ decide (0 ≤ i) = ts.any p) ∧ Below w.heap.size w w' := by
  have HT := Lib.hid hT; have HP := Lib.hid hp; clear hT hp
  go_enter Tryz.func109, Tryz.ntmps109
  go_wp2_with fail
  go_loopw [5, 8] (fun _ i wr => ∃ k : Nat, k ≤ ts.length ∧ i = .int .i64 k ∧ Below w.heap.size w wr ∧ ∀ (j : Nat) (t : St), j < k → ts[j]? = some t → p t = false) (fun _ i _ => ts.length - (intOf i).toNat)
  case atStart => exact ⟨0, by omega, rfl, Below.refl _ _, fun j t h => absurd h (by omega)⟩
  case round =>
    obtain ⟨k, hk, rfl, hb, hno⟩ := hrel
    have HB := Lib.hid hb; have HNO := Lib.hid hno; clear hb hno
    by_cases hlt : k < ts.length
    · have hltz : (k : Int) < (ts.length : Int) := by omega
      obtain ⟨t, ht⟩ : ∃ t, ts[k]? = some t := ⟨_, List.getElem?_eq_getElem hlt⟩
      obtain ⟨b, o, rfl, hbl, hld⟩ := HT.out.five ht
      obtain ⟨c0, c1, c2, c3, c4⟩ := hld _ HB.out
      have hcall := HP.out (by omega) wr t HB.out
      have HTT := Lib.hid ht; clear ht
      cases hq : p t with
      | true =>
        rw [hq] at hcall
        have HQ := Lib.hid hq; clear hq
        go_wp2_with fail
        refine hcall.mono ?_; rintro e w1 ⟨rfl, hb1⟩
        have HB1 := Lib.hid (HB.out.trans (hb1.mono HB.out.size)); clear hb1 hld hcall c0 c1 c2 c3 c4
        go_wp2_with fail
        go_ret
        refine ⟨⟨k, rfl, ?_⟩, HB1.out⟩
        rw [decide_eq_true (by omega), eq_comm, List.any_eq_true]
        exact ⟨t, List.mem_of_getElem? HTT.out, HQ.out⟩
      | false =>
        rw [hq] at hcall
        have HQ := Lib.hid hq; clear hq
        go_wp2_with fail
        refine hcall.mono ?_; rintro e w1 ⟨rfl, hb1⟩
        have HB1 := Lib.hid (HB.out.trans (hb1.mono HB.out.size)); clear hb1 hld hcall c0 c1 c2 c3 c4
        go_wp2_with fail
        go_roundw
        case rel =>
          refine ⟨k + 1, by omega, by simp, HB1.out, fun j t' hj ht' => ?_⟩
          by_cases e : j = k
          · subst e
            rw [HTT.out] at ht'; cases ht'
            exact HQ.out
          · exact HNO.out j t' (by omega) ht'
        case measure => simp [intOf]; omega
    · have hltz : ¬ (k : Int) < (ts.length : Int) := by omega
      go_wp2_with fail
      go_ret
      refine ⟨⟨-1, rfl, ?_⟩, HB.out⟩
      rw [decide_eq_false (by omega), eq_comm, any_false]
      exact fun j t ht => HNO.out j t (by have := (List.getElem?_eq_some_iff.1 ht).1; omega) ht
theorem containsFunc_any (A : Option Addr) (ts : List St) (c g : Nat) (lb : Array Value) (p : St → Bool) (w : World) (hT : Ts w A ts) (hn : ts.length ≤ 5000000)
    (eg : ∀ args w, (callFunc g args).run Tryz.prog w = .ok (.enter g args) w) (hp : 0 < ts.length → Tells g lb p w) :
    Calls Tryz.prog 57 #[.slice A ts.length c, .func (.func g) #[] lb] w fun e w' => e = .returned (.bool (ts.any p)) ∧ Below w.heap.size w w' := by
  have H := Lib.hid (indexFunc_any A ts c g lb p w hT hn eg hp); clear hT hp eg
  go_enter Tryz.func57, Tryz.ntmps57
  go_wp2_with fail
  refine (H.out).mono ?_; rintro e w1 ⟨⟨i, rfl, hi⟩, hb⟩
  have HB := Lib.hid hb; clear hb
  have HI := Lib.hid hi; clear hi
  go_wp2_with fail
  go_ret
  exact ⟨ret_bool HI.out, HB.out⟩
end

section
open Go.ChangeShapes Go.WideShapes Go.ChangeAt Go.RowKit Go.BigFrame
set_option maxRecDepth 100000
theorem reachedC (B : Nat) (t : St) (w : World) (hB : Holds w B t) : Tells 108 #[.pointer (some ⟨B, 0, none⟩)] (fun x => decide (x.L t)) w := by
  intro W x hb
  show Calls _ _ #[x.val, .pointer (some ⟨B, 0, none⟩)] _ (fun e w' => e = .returned (.bool (decide (x.L t))) ∧ Below W.heap.size W w')
  have h := hB.below hb
  have hc := fun w => leq_any x t w
  generalize decide (x.L t) = v at *
  have hl := h.lt
  obtain ⟨c0, c1, c2, c3, c4⟩ := h.cells5
  unfold St.val at *
  have HC := Lib.hid hc; clear hc h hB hb
  go_enter Tryz.func108, Tryz.ntmps108
  go_wp2_with fail
  refine (HC.out _).mono ?_; rintro e w1 ⟨rfl, hb1⟩
  have HB1 := Lib.hid hb1; clear hb1 c0 c1 c2 c3 c4
  go_wp2_with fail
  go_ret
  exact ⟨rfl, ((Below.refl _ _).alloc (Nat.le_refl _) _).trans (HB1.out.mono (by simp))⟩
theorem reached_any (A : Option Addr) (ts : List St) (c : Nat) (t : St) (w : World) (hT : Ts w A ts) (hn : ts.length ≤ 5000000) :
    Calls Tryz.prog 54 #[.slice A ts.length c, t.val] w fun e w' => e = .returned (.bool (ts.any fun x => decide (x.L t))) ∧ Below w.heap.size w w' := by
  have hh := Holds.made w t
  have hc := containsFunc_any A ts c 108 #[.pointer (some ⟨w.heap.size, 0, none⟩)] (fun x => decide (x.L t)) _ (hT.below ((Below.refl _ _).alloc (Nat.le_refl _) _)) hn (enters_of Tryz.func108 (by kernel_rfl) rfl) (fun _ => reachedC w.heap.size t _ hh)
  generalize (ts.any fun x => decide (x.L t)) = v at *
  unfold St.val at *
  have HC := Lib.hid hc; clear hc hh hT
  go_enter Tryz.func54, Tryz.ntmps54
  go_wp2_with fail
  refine (HC.out).mono ?_; rintro e w1 ⟨rfl, hb1⟩
  have HB1 := Lib.hid hb1; clear hb1
  go_wp2_with fail
  go_ret
  exact ⟨rfl, ((Below.refl _ _).alloc (Nat.le_refl _) _).trans (HB1.out.mono (by simp))⟩
end

section
open Go.ChangeShapes Go.WideShapes Go.ChangeAt Go.RowKit Go.BigFrame
set_option maxRecDepth 100000
def BoxAt (w : World) (B : Nat) (v : Value) : Prop := B < w.heap.size ∧ w.cell? ⟨B, 0, none⟩ = some v
section
variable {w w' W : World} {B b o n c : Nat} {A : Option Addr} {v : Value} {x y : Operand} {i j : Int} {p : Bool}
theorem BoxAt.below (h : BoxAt w B v) (hb : Below w.heap.size w w') : BoxAt w' B v := ⟨Nat.lt_of_lt_of_le h.1 hb.size, (hb.cell (p := ⟨B, 0, none⟩) h.1).trans h.2⟩
theorem BoxAt.made (w : World) (v : Value) (t : TypeId) : BoxAt (w.alloc (.cells #[v] t)) w.heap.size v := by
  have h : Row (w.alloc (.cells #[v] t)) w.heap.size t [v] := Row.made w _ _
  exact ⟨h.lt, h.cell 0⟩
theorem load_box (h : BoxAt W B (.slice A n c)) : ∀ w', Below W.heap.size W w' → (Instr.loadAt 51 (.pointer (some ⟨B, 0, none⟩))).run Tryz.prog w' = .ok (.slice A n c) w' := by
  intro w' hb
  have hc := (h.below hb).2
  go_simp
theorem load_at (hb : b < W.heap.size) (h : W.cell? ⟨b, o, none⟩ = some (.int .i64 i)) : ∀ w', Below W.heap.size W w' → (Instr.loadAt 3 (.pointer (some ⟨b, o, none⟩))).run Tryz.prog w' = .ok (.int .i64 i) w' := by
  intro w' hbw
  have hc := (hbw.cell (p := ⟨b, o, none⟩) hb).trans h
  go_simp
theorem nei_is (h : (i != j) = p) : ∀ w, (do eqGuard .neq 3 x y (.int .i64 i) (.int .i64 j); binOp .neq 3 (.int .i64 i) (.int .i64 j) : Sem Value).run Tryz.prog w = .ok (.bool p) w := by
  intro w; subst h; go_simp
theorem Ts.first {ts : List St} {z : St} (h : Ts w A (z :: ts)) : ∃ b o, A = some ⟨b, o, none⟩ ∧ b < w.heap.size ∧ w.cell? ⟨b, o, none⟩ = some (.int .i64 z.d) := by
  obtain ⟨b, o, e, hlt, h5⟩ := h.five (i := 0) rfl
  have := (h5 w (Below.refl _ _)).1
  rw [Nat.zero_mul, Nat.add_zero] at this
  exact ⟨b, o, e, hlt, this⟩
end
end
end Go.Proofs.YtmhophmpbpbjaaaGreatDoor
