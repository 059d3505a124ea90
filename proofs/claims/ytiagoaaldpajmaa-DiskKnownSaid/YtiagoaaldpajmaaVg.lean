/- Several texts in one: Opened. -/
import Derived.Test.YtiagoaaldpajmaaVf
import Derived.WalkSpells
namespace Go.Proofs.Ytiagoaaldpajmaa
open Go.ChangeShapes Go.WideShapes Go.ChangeAt Go.RowKit Go.BigFrame Go.Maps Go.Sort
set_option linter.unusedVariables false

theorem stage_mapUpdate {P : Program} {C : World → Prop} {o : Oper} {a : Act} {w : World} (mo x v : Operand) (t : TypeId) (hop : o.op = Op.mapUpdate t mo x v) (k e : TypeId) (K : Maps.Keyed P k) (ht : P.underlying t = some (.map k e))
    (R : Value → Option (DataW Unit × List MemPlace)) (b n : Nat) (D : DataW Unit) (hm : a.eval mo = .map (some b)) (hown : w.ownsMap P k R b n D) (hn : n < maxLen) (key val : Value) (kl : Lit) (hx : a.eval x = key) (hv : a.eval v = val)
    (hkey : keyOf P k key = some kl) (d : DataW Unit) (ps : List MemPlace) (hval : R val = some (d, ps)) (hC : ∀ w', w'.ownsMap P k R b (n + 1) (D.put kl d) → w.grownBy w' (some b) → C w') : Stage.at_ P o a C w undef := by
  obtain ⟨w', hrun, r1, r2⟩ := hown.update K ht hn hkey hval
  unfold Stage.at_ execOp
  simp only [hop, hm, hx, hv, Sem.run_bind, hrun, Result.andThen_ok, Sem.run_pure, Stage.upon]
  exact ⟨trivial, hC w' r1 r2⟩

theorem load_map {w : World} {p : Nat} {m : Option Nat} (h : w.cell? ⟨p, 2, none⟩ = some (.map m)) : (Instr.loadAt TM (.pointer (some ⟨p, 2, none⟩))).run Try.prog w = .ok (.map m) w := by
  go_simp
/-- memory was made, nothing else -/
def Grew (W w' : World) : Prop := Below W.heap.size W w'
def Put (W : World) (b n : Nat) (D : DataW Unit) (b1 : Bool) (w' : World) : Prop :=
  match b1 with
  | true => ∃ w1, Grew W w1 ∧ w'.ownsMap Try.prog 9 refPtr b n D ∧ w1.grownBy w' (some b)
  | false => Grew W w'
section
variable {w : World} {p r u dd f : Nat} {m : Option Nat} {o : Bool}
theorem opened_old (h : Row w p TD (dcells r u m dd o f)) {fs : Fs} {g : Nm → Nat} (hM : MapAt w m fs g) (s : ByteArray) (hs : s.size ≤ 9223372036854775807) {x : Fil} (hg : getF s.data.toList fs = some x) :
    Calls Try.prog 38 #[.pointer (some ⟨p, 0, none⟩), .string s] w fun e w' => e = .returned (.pointer (some ⟨g s.data.toList, 0, none⟩)) ∧ w = w' := by
  obtain ⟨h0, h1, h2, h3, h4, h5⟩ := drow h
  have hlk := lookup_run hM s hs
  rw [ptrOf_some hg] at hlk
  clear hg
  go_enter Try.func38, Try.ntmps38
  go_wp2
  go_ret
  exact ⟨rfl, rfl⟩
def newF : Fil := ⟨[], 0, false⟩
/-- the map's block, once there is one -/
def MapBlock (w : World) (m : Option Nat) (b : Nat) : Prop := m = some b ∨ m = none ∧ w.heap.size ≤ b
def Opened (w w' : World) (p : Nat) (m : Option Nat) (P : Nat → Nat → Prop) : Prop := ∃ b nb, MapBlock w m b ∧ w.heap.size ≤ nb ∧ Touch (PM p m) w w' ∧ P b nb
set_option maxRecDepth 100000 in
set_option maxHeartbeats 2000000 in
theorem opened_new (h : Row w p TD (dcells r u m dd o f)) {fs : Fs} {g : Nm → Nat} (hM : MapAt w m fs g) (s : ByteArray) (hs : s.size ≤ 128) (hg : getF s.data.toList fs = none) (hl : fs.length ≤ 1000000000) :
    Calls Try.prog 38 #[.pointer (some ⟨p, 0, none⟩), .string s] w fun e w' => Opened w w' p m fun b nb => e = .returned (.pointer (some ⟨nb, 0, none⟩)) ∧
      Row w' p TD (dcells r u (some b) dd o f) ∧ MapAt w' (some b) (putF s.data.toList newF fs) (upd g s.data.toList nb) ∧ FileAt w' nb (.slice none 0 0) newF := by
  obtain ⟨h0, h1, h2, h3, h4, h5⟩ := drow h
  have hz := h.free
  have hen : ∀ (w : World), (binOp .eql TM (.map none) (.map none)).run Try.prog w = .ok (.bool true) w := fun w => by kernel_rfl
  have hes : ∀ (w : World) (b : Nat), (binOp .eql TM (.map (some b)) (.map none)).run Try.prog w = .ok (.bool false) w := fun w b => by kernel_rfl
  have hlk := lookup_run hM s (by omega)
  rw [ptrOf_none hg] at hlk
  have HH := Lib.hid h; have HM := Lib.hid hM; have HG := Lib.hid hg; clear h hM hg
  have hlp := HH.out.lt
  have hmaplt : ∀ b, m = some b → b < w.heap.size := by rintro b rfl; exact HM.out.lt
  have HML := Lib.hid hmaplt; clear hmaplt
  cases m with
  | none =>
    have hmm := @run_makeMap Try.prog
    go_enter Try.func38, Try.ntmps38
    go_wp2
    obtain ⟨b, hb⟩ : ∃ b, b = w.heap.size := ⟨_, rfl⟩
    obtain ⟨nb, hnb⟩ : ∃ nb, nb = w.heap.size + 1 := ⟨_, rfl⟩
    rw [← hnb, ← hb]
    generalize hW : (((w.setCell ⟨p, 2, none⟩ (.map (some b))).alloc (.map #[] 0)).alloc (.cells #[.slice none 0 0, .int .i64 0, .bool false] TF)) = W
    have hbp : b ≠ p := by omega
    have hRW : Row W p TD (dcells r u (some b) dd o f) := by rw [← hW]; exact (((HH.out.put 2 _).alloc _).alloc _)
    have hMW : MapAt W (some b) fs g := by
      have hfs : fs = [] := HM.out
      subst hfs
      have h1 := World.ownsMap_made (H := Unit) (w.setCell ⟨p, 2, none⟩ (.map (some b))) Try.prog 9 refPtr
      rw [show (w.setCell ⟨p, 2, none⟩ (.map (some b))).heap.size = b by simp [hb]] at h1
      rw [← hW]
      exact h1.alloc _
    have hFW : Row W nb TF [.slice none 0 0, .int .i64 0, .bool false] := by
      have := Row.made ((w.setCell ⟨p, 2, none⟩ (.map (some b))).alloc (.map #[] 0)) TF [.slice none 0 0, .int .i64 0, .bool false]
      rw [← hW, hnb]
      simpa using this
    have hTW : Touch (PM p none) w W := by rw [← hW]; exact (((Touch.refl (PM p none) w).setCell (p := ⟨p, 2, none⟩) (.inl (.inl rfl)) _).alloc _).alloc _
    have hbb : MapBlock w none b ∧ w.heap.size ≤ nb := ⟨.inr ⟨rfl, by omega⟩, by omega⟩
    clear hb hmm
    have HR := Lib.hid hRW; have HMW := Lib.hid hMW; have HFW := Lib.hid hFW; have HTW := Lib.hid hTW; have HBB := Lib.hid hbb
    have hc2 : ∀ w' : World, Grew W w' → w'.cell? ⟨p, 2, none⟩ = some (.map (some b)) := fun w' hw => by
      rw [Below.cell hw (p := ⟨p, 2, none⟩) HR.out.lt]; exact (drow HR.out).2.2.1
    clear hRW hMW hFW hTW hbb hW hnb h0 h1 h2 h3 h4 h5 hz hlk hen hes
    refine Stage.wp_region (by kernel_rfl) (by kernel_rfl) (Stage.one 7 (Put W b (fs.length + 1) ((dat fs g).put (.string s.data.toList) (.lit (.int .i64 (nb : Nat)))))) (Stage.one_start (by simp) (show Grew W W.drew from (Below.refl _ _).drew)) ?_
    refine Stage.wpSt_reads 3 (fun _ => True) (by kernel_rfl) (Stage.one_any (by simp)) ?_
    simp only [List.take_succ_cons, List.take_zero, List.drop_succ_cons, List.drop_zero]
    repeat (go_big_quiet_step (fail))
    refine wpQuiet_nil ?_
    refine Stage.wpSt_do (.map (some b)) rfl (Stage.one_step (by kernel_rfl) (fun w' hw => Free.at_load _ _ rfl rfl (load_map (hc2 w' hw)) hw)) ?_
    go_simp
    refine Stage.wpSt_reads 1 (fun _ => True) (by kernel_rfl) (Stage.one_any (by simp)) ?_
    simp only [List.take_succ_cons, List.take_zero, List.drop_succ_cons, List.drop_zero]
    repeat (go_big_quiet_step (fail))
    refine wpQuiet_nil ?_
    refine Stage.wpSt_do (.string s) rfl (Stage.one_step (by kernel_rfl) ?_) ?_
    · intro w' hw
      refine Free.at_call _ _ rfl Try.func60 (by kernel_rfl) rfl [.string s] rfl ?_
      refine (clone_str s w' (by omega)).mono ?_
      rintro e w'' ⟨he, hb⟩
      exact ⟨he, Below.trans hw (hb.mono (Below.size hw))⟩
    go_simp
    refine Stage.wpSt_reads 1 (fun _ => True) (by kernel_rfl) (Stage.one_any (by simp)) ?_
    simp only [List.take_succ_cons, List.take_zero, List.drop_succ_cons, List.drop_zero]
    repeat (go_big_quiet_step (fail))
    refine wpQuiet_nil ?_
    refine Stage.wpSt_do undef rfl (Stage.one_do ?_) ?_
    · intro w' hw
      have hown : w'.ownsMap Try.prog 9 refPtr b fs.length (dat fs g) := ownsMap_touch HMW.out (Touch.of_below (F := fun _ => False) hw) (by simp)
      refine stage_mapUpdate _ _ _ TM rfl _ _ str_law und_map refPtr b fs.length (dat fs g) rfl hown (by unfold maxLen; omega) (.string s) (.pointer (some ⟨nb, 0, none⟩)) _ rfl rfl (key_of (by unfold maxLen; omega)) (.lit (.int .i64 (nb : Nat))) [] rfl ?_
      intro w'' h1 h2
      exact ⟨w', hw, h1, h2⟩
    go_simp
    refine Stage.wpSt_nil (Stage.one_end ?_)
    rintro w2 ⟨w1, hw1, hown2, hgr2⟩
    have H1 := Lib.hid hw1; have H2 := Lib.hid hown2; have H3 := Lib.hid hgr2; clear hw1 hown2 hgr2 hc2
    go_wp2
    go_ret
    have hbp : b ≠ p := by
      intro e; subst e
      obtain ⟨es, clock, hb', _⟩ := id HMW.out
      have := HR.out; unfold Row at this; rw [this] at hb'; cases hb'
    have hbn : b ≠ nb := by
      intro e; subst e
      obtain ⟨es, clock, hb', _⟩ := id HMW.out
      have := HFW.out; unfold Row at this; rw [this] at hb'; cases hb'
    have hR1 : Row w2 p TD (dcells r u (some b) dd o f) := Row.grown (Row.below HR.out (show Below W.heap.size W w1 from H1.out) HR.out.lt) H3.out (fun e => hbp (Option.some.inj e).symm)
    have hF1 : Row w2 nb TF [.slice none 0 0, .int .i64 0, .bool false] := Row.grown (Row.below HFW.out (show Below W.heap.size W w1 from H1.out) HFW.out.lt) H3.out (fun e => hbn (Option.some.inj e).symm)
    have hown2 := H2.out
    rw [dat_put (f := newF)] at hown2
    have H1b : Below W.heap.size W w1 := H1.out
    refine ⟨b, nb, HBB.out.1, HBB.out.2, ?_, rfl, hR1, MapAt.own hown2, ⟨hF1, World.ownsRow_nil _ _ _ _, by simp [newF]⟩⟩
    refine HTW.out.trans' ((Touch.of_below (F := fun k => some k = some b) H1b).trans (Touch.of_grown H3.out (fun k hk => hk.symm))) ?_
    intro i hi
    rcases HBB.out.1 with e | ⟨e, e2⟩
    · left; right; rw [e, ← hi]
    · right; have := Option.some.inj hi; omega
  | some b =>
    go_enter Try.func38, Try.ntmps38
    go_wp2
    obtain ⟨nb, hnb⟩ : ∃ nb, nb = w.heap.size := ⟨_, rfl⟩
    rw [← hnb]
    generalize hW : (w.alloc (.cells #[.slice none 0 0, .int .i64 0, .bool false] TF)) = W
    have hRW : Row W p TD (dcells r u (some b) dd o f) := by rw [← hW]; exact HH.out.alloc _
    have hMW : MapAt W (some b) fs g := by rw [← hW]; exact HM.out.touch ((Touch.refl (fun _ => False) w).alloc _) (by simp)
    have hFW : Row W nb TF [.slice none 0 0, .int .i64 0, .bool false] := by rw [← hW, hnb]; exact Row.made w TF _
    have hTW : Touch (PM p (some b)) w W := by rw [← hW]; exact (Touch.refl _ _).alloc _
    have hbb : MapBlock w (some b) b ∧ w.heap.size ≤ nb := ⟨.inl rfl, by omega⟩
    have HR := Lib.hid hRW; have HMW := Lib.hid hMW; have HFW := Lib.hid hFW; have HTW := Lib.hid hTW; have HBB := Lib.hid hbb
    have hc2 : ∀ w' : World, Grew W w' → w'.cell? ⟨p, 2, none⟩ = some (.map (some b)) := fun w' hw => by
      rw [Below.cell hw (p := ⟨p, 2, none⟩) HR.out.lt]; exact (drow HR.out).2.2.1
    clear hRW hMW hFW hTW hbb hW hnb h0 h1 h2 h3 h4 h5 hz hlk hen hes
    refine Stage.wp_region (by kernel_rfl) (by kernel_rfl) (Stage.one 7 (Put W b (fs.length + 1) ((dat fs g).put (.string s.data.toList) (.lit (.int .i64 (nb : Nat)))))) (Stage.one_start (by simp) (show Grew W W.drew from (Below.refl _ _).drew)) ?_
    refine Stage.wpSt_reads 3 (fun _ => True) (by kernel_rfl) (Stage.one_any (by simp)) ?_
    simp only [List.take_succ_cons, List.take_zero, List.drop_succ_cons, List.drop_zero]
    repeat (go_big_quiet_step (fail))
    refine wpQuiet_nil ?_
    refine Stage.wpSt_do (.map (some b)) rfl (Stage.one_step (by kernel_rfl) (fun w' hw => Free.at_load _ _ rfl rfl (load_map (hc2 w' hw)) hw)) ?_
    go_simp
    refine Stage.wpSt_reads 1 (fun _ => True) (by kernel_rfl) (Stage.one_any (by simp)) ?_
    simp only [List.take_succ_cons, List.take_zero, List.drop_succ_cons, List.drop_zero]
    repeat (go_big_quiet_step (fail))
    refine wpQuiet_nil ?_
    refine Stage.wpSt_do (.string s) rfl (Stage.one_step (by kernel_rfl) ?_) ?_
    · intro w' hw
      refine Free.at_call _ _ rfl Try.func60 (by kernel_rfl) rfl [.string s] rfl ?_
      refine (clone_str s w' (by omega)).mono ?_
      rintro e w'' ⟨he, hb⟩
      exact ⟨he, Below.trans hw (hb.mono (Below.size hw))⟩
    go_simp
    refine Stage.wpSt_reads 1 (fun _ => True) (by kernel_rfl) (Stage.one_any (by simp)) ?_
    simp only [List.take_succ_cons, List.take_zero, List.drop_succ_cons, List.drop_zero]
    repeat (go_big_quiet_step (fail))
    refine wpQuiet_nil ?_
    refine Stage.wpSt_do undef rfl (Stage.one_do ?_) ?_
    · intro w' hw
      have hown : w'.ownsMap Try.prog 9 refPtr b fs.length (dat fs g) := ownsMap_touch HMW.out (Touch.of_below (F := fun _ => False) hw) (by simp)
      refine stage_mapUpdate _ _ _ TM rfl _ _ str_law und_map refPtr b fs.length (dat fs g) rfl hown (by unfold maxLen; omega) (.string s) (.pointer (some ⟨nb, 0, none⟩)) _ rfl rfl (key_of (by unfold maxLen; omega)) (.lit (.int .i64 (nb : Nat))) [] rfl ?_
      intro w'' h1 h2
      exact ⟨w', hw, h1, h2⟩
    go_simp
    refine Stage.wpSt_nil (Stage.one_end ?_)
    rintro w2 ⟨w1, hw1, hown2, hgr2⟩
    have H1 := Lib.hid hw1; have H2 := Lib.hid hown2; have H3 := Lib.hid hgr2; clear hw1 hown2 hgr2 hc2
    go_wp2
    go_ret
    have hbp : b ≠ p := by
      intro e; subst e
      obtain ⟨es, clock, hb', _⟩ := id HMW.out
      have := HR.out; unfold Row at this; rw [this] at hb'; cases hb'
    have hbn : b ≠ nb := by
      intro e; subst e
      obtain ⟨es, clock, hb', _⟩ := id HMW.out
      have := HFW.out; unfold Row at this; rw [this] at hb'; cases hb'
    have hR1 : Row w2 p TD (dcells r u (some b) dd o f) := Row.grown (Row.below HR.out (show Below W.heap.size W w1 from H1.out) HR.out.lt) H3.out (fun e => hbp (Option.some.inj e).symm)
    have hF1 : Row w2 nb TF [.slice none 0 0, .int .i64 0, .bool false] := Row.grown (Row.below HFW.out (show Below W.heap.size W w1 from H1.out) HFW.out.lt) H3.out (fun e => hbn (Option.some.inj e).symm)
    have hown2 := H2.out
    rw [dat_put (f := newF)] at hown2
    have H1b : Below W.heap.size W w1 := H1.out
    refine ⟨b, nb, HBB.out.1, HBB.out.2, ?_, rfl, hR1, MapAt.own hown2, ⟨hF1, World.ownsRow_nil _ _ _ _, by simp [newF]⟩⟩
    refine HTW.out.trans' ((Touch.of_below (F := fun k => some k = some b) H1b).trans (Touch.of_grown H3.out (fun k hk => hk.symm))) ?_
    intro i hi
    rcases HBB.out.1 with e | ⟨e, e2⟩
    · left; right; rw [e, ← hi]
    · right; have := Option.some.inj hi; omega
end
end Go.Proofs.Ytiagoaaldpajmaa
