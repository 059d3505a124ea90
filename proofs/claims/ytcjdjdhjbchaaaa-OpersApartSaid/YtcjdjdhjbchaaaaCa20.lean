/- OpKinds, OpRun -/
import Derived.Test.YtcjdjdhjbchaaaaCa13
import Derived.Test.YtcjdjdhjbchaaaaCa14
import Derived.Test.YtcjdjdhjbchaaaaCa19
namespace Go.Proofs.Ytcjdjdhjbchaaaa
set_option linter.unusedVariables false
section
namespace Op
open Go.ChangeShapes Go.WideShapes Go.ChangeAt Go.RowKit Go.BigFrame Go.Shelf Vr
set_option maxRecDepth 100000
@[reducible] def fnV (f : FuncId) : Value := .func (.func f) #[] #[]
def KD : DataW Value := .map [(.int .u8 1, .held (fnV 50)), (.int .u8 2, .held (fnV 51)), (.int .u8 3, .held (fnV 54)), (.int .u8 4, .held (fnV 50)), (.int .u8 5, .held (fnV 56)), (.int .u8 6, .held (fnV 59)), (.int .u8 7, .held (fnV 50)), (.int .u8 8, .held (fnV 50)), (.int .u8 9, .held (fnV 50)), (.int .u8 10, .held (fnV 50))]
/-- what is known while the map is filled -/
structure KS (w0 w : World) (b n : Nat) (D : DataW Value) : Prop where
  base : w0.heap.size ≤ b
  below : Below w0.heap.size w0 w
  own : w.ownsMap Try.prog 5 RF b n D
theorem wpList_insert_k (w0 w : World) {ops : Array Oper} {rest : List Oper} {o : Oper} {a : Act} {Q : Exit → Act → World → Prop}
    (hg : o.guard = none) (m x v : Operand) (hop : o.op = Op.insert 63 m x v) {b n : Nat} {D : DataW Value} (h : KS w0 w b n D) (hn : n < maxLen)
    (hm : a.eval m = .map (some b)) (key val : Value) (kl : Lit) (hx : a.eval x = key) (hv : a.eval v = val) (hkey : keyOf Try.prog 5 key = some kl)
    (hK : ∀ w', KS w0 w' b (n + 1) (D.put kl (.held val)) → wpList Try.prog ops Q rest (a.put o.dst undef) w') :
    wpList Try.prog ops Q (o :: rest) a w :=
  wpList_insert_own w hg m x v 63 hop 5 _ keyed8 Try.underlying63 RF b n D hm h.own hn key val kl hx hv hkey _ _ rfl fun w' ho hgr =>
    hK w' ⟨h.base, h.below.grown hgr h.below.size (fun j hj => by cases hj; exact h.base), ho⟩
def KindsD (w : World) (e : Ending) (w' : World) : Prop := (∃ b, e = .returned (.map (some b)) ∧ w'.ownsMap Try.prog 5 RF b 10 KD) ∧ Below w.heap.size w w'
set_option maxHeartbeats 4000000 in
theorem kinds_any (w : World) : Calls Try.prog 30 #[] w (KindsD w) := by
  have hmm := @run_makeMap Try.prog
  have HNS : KS w (w.alloc (.map #[] 0)) w.heap.size 0 (.map []) := ⟨Nat.le_refl _, (Below.refl _ _).alloc (Nat.le_refl _) _, World.ownsMap_made _ _ _ _⟩
  go_enter Try.func30, Try.ntmps30
  go_wp2_with (refine wpList_insert_k _ _ rfl _ _ _ rfl HNS (by unfold maxLen; omega) rfl _ _ _ rfl rfl (keyLit (by decide) (by decide)) ?_; intro wn hns; clear HNS; have HNS := hns; clear hns)
  go_ret
  exact ⟨⟨_, rfl, HNS.own⟩, HNS.below⟩
/-- which closure a kind has -/
def doesF (k : Nat) : FuncId := if k = 2 then 51 else if k = 3 then 54 else if k = 5 then 56 else if k = 6 then 59 else 50
theorem look_kind {w : World} {b k : Nat} (h : w.ownsMap Try.prog 5 RF b 10 KD) (h1 : 1 ≤ k) (h2 : k ≤ 10) : (Instr.lookup 63 (.map (some b)) (.int .u8 (k : Nat)) false).run Try.prog w = .ok (fnV (doesF k)) w := by
  obtain ⟨v, ps, hrun, hv⟩ := h.lookup keyed8 (t := 63) Try.underlying63 (z := .nilFunc) (by kernel_rfl) (zd := .held .nilFunc) (zp := []) rfl (key8 (k := k) (by omega))
  have hv' : DataW.held v = KD.atKey (.int .u8 (k : Nat)) (.held .nilFunc) := by
    unfold RF at hv; injection hv with hv; injection hv
  rw [hrun]
  have : k = 1 ∨ k = 2 ∨ k = 3 ∨ k = 4 ∨ k = 5 ∨ k = 6 ∨ k = 7 ∨ k = 8 ∨ k = 9 ∨ k = 10 := by omega
  rcases this with rfl | rfl | rfl | rfl | rfl | rfl | rfl | rfl | rfl | rfl <;> (injection hv' with hv'; rw [hv']; rfl)
/-- what a node makes, by its kind's closure -/
theorem does_v {w : World} {v : Value} {ls : List (List Rd)} (n : Nd) (NA : Option Addr) (nm nc : Nat) (hI : InV w v ls) (hnum : n.num = true) (hw : ls.length = n.want) (hW : ∀ l ∈ ls, ∀ r ∈ l, r.W) (hl : ∀ l ∈ ls, l.length ≤ 200) (hb2 : n.b ≤ 9223372036854775807) :
    Calls Try.prog (doesF n.k) #[nodeV n NA nm nc, v] w (GivesP (makesR n ls) w) := by
  have hone : ∀ (k1 : n.want = 1), ∃ l, ls = [l] := fun k1 => by
    rw [k1] at hw
    match ls, hw with
    | [l], _ => exact ⟨l, rfl⟩
  have htwo : ∀ (k1 : n.want = 2), ∃ a b, ls = [a, b] := fun k1 => by
    rw [k1] at hw
    match ls, hw with
    | [a, b], _ => exact ⟨a, b, rfl⟩
  by_cases k2 : n.k = 2
  · obtain ⟨l, rfl⟩ := hone (by unfold Nd.want; simp [k2])
    have hq : n.a ≤ 3 ∧ (n.a ≠ 3 ∨ 0 < n.b) := by unfold Nd.num at hnum; rw [if_pos k2] at hnum; exact of_decide_eq_true hnum
    have e : makesR n [l] = l.map (mapR n) := by unfold makesR; rw [if_pos k2]; rfl
    rw [show doesF n.k = 51 by unfold doesF; rw [if_pos k2], e]
    exact map_v n NA nm nc hI (Nat.le_trans (hl l (by simp)) (by omega)) hq.1 (fun h => by omega) hb2
  · by_cases k3 : n.k = 3
    · obtain ⟨l, rfl⟩ := hone (by unfold Nd.want; simp [k3])
      have hq : n.a ≤ 2 ∧ (n.a ≠ 1 ∨ 0 < n.b) := by unfold Nd.num at hnum; rw [if_neg k2, if_pos k3] at hnum; exact of_decide_eq_true hnum
      have e : makesR n [l] = l.filter (passB n) := by unfold makesR; rw [if_neg k2, if_pos k3]; rfl
      rw [show doesF n.k = 54 by unfold doesF; rw [if_neg k2, if_pos k3], e]
      exact filter_v n NA nm nc hI (Nat.le_trans (hl l (by simp)) (by omega)) hq.1 (fun h => by omega) hb2
    · by_cases k5 : n.k = 5
      · obtain ⟨l, rfl⟩ := hone (by unfold Nd.want; simp [k5])
        have hq : n.a ≤ 3 ∧ n.b = 0 := by unfold Nd.num at hnum; rw [if_neg k2, if_neg k3, if_pos k5] at hnum; exact of_decide_eq_true hnum
        have e : makesR n [l] = reduceR n.a l := by unfold makesR; rw [if_neg k2, if_neg k3, if_pos k5]; rfl
        rw [show doesF n.k = 56 by unfold doesF; rw [if_neg k2, if_neg k3, if_pos k5], e]
        exact reduce_v n NA nm nc hI (hW l (by simp)) (Nat.le_trans (hl l (by simp)) (by omega)) hq.1
      · by_cases k6 : n.k = 6
        · obtain ⟨a, b, rfl⟩ := htwo (by unfold Nd.want; simp [k6])
          have e : makesR n [a, b] = joinR a b := by unfold makesR; rw [if_neg k2, if_neg k3, if_neg k5, if_pos k6]; rfl
          rw [show doesF n.k = 59 by unfold doesF; rw [if_neg k2, if_neg k3, if_neg k5, if_pos k6], e]
          exact join_v n NA nm nc hI (hW b (by simp)) (hW a (by simp)) (hl a (by simp)) (hl b (by simp))
        · have e : makesR n ls = ls.flatten := by unfold makesR; rw [if_neg k2, if_neg k3, if_neg k5, if_neg k6]
          rw [show doesF n.k = 50 by unfold doesF; rw [if_neg k2, if_neg k3, if_neg k5, if_neg k6], e]
          have hw2 : n.want ≤ 2 := by
            unfold Nd.want
            split
            · omega
            · split <;> omega
          have hfl : ls.flatten.length ≤ 400 := by
            match ls, hw, hl with
            | [], _, _ => simp
            | [a], _, hl => have := hl a (by simp); simp; omega
            | [a, b], _, hl => have := hl a (by simp); have := hl b (by simp); simp; omega
            | _ :: _ :: _ :: _, hw, _ => simp at hw; omega
          exact as_v n NA nm nc hI (by omega) (by omega)
theorem does_func (k : Nat) : ∀ args w, (callFunc (doesF k) args).run Try.prog w = .ok (.enter (doesF k) args) w := by
  unfold doesF
  split
  · exact enters_of Try.func51 (by kernel_rfl) rfl
  · split
    · exact enters_of Try.func54 (by kernel_rfl) rfl
    · split
      · exact enters_of Try.func56 (by kernel_rfl) rfl
      · split
        · exact enters_of Try.func59 (by kernel_rfl) rfl
        · exact enters_of Try.func50 (by kernel_rfl) rfl
end Op
end

section
namespace Op
open Go.ChangeShapes Go.WideShapes Go.ChangeAt Go.RowKit Go.BigFrame Go.Shelf Vr
set_option maxRecDepth 100000
/-- what is made of rows, sorted -/
def runR (n : Nd) (ls : List (List Rd)) : List Rd := if errR n ls.length = 0 then sortR (makesR n ls) else []
/-- what Run answers -/
def GivesE (l : List Rd) (er : Int) (w : World) (e : Ending) (w' : World) : Prop := (∃ v', e = .returned (.tuple #[v', .int .i64 er]) ∧ RowV w' v' l) ∧ Below w.heap.size w w'
/-- the closure that is looked up -/
def vtR (g k : Nat) (i : Nat) (v : Value) : Prop := match i with
  | 1 => v = .pointer (some ⟨g, 0, none⟩)
  | 2 => v = .int .u8 (k : Nat)
  | 3 => v = fnV (doesF k)
  | 4 => v = fnV (doesF k)
  | _ => True
def FR (wz : World) (b : Nat → Bool) (vs : Nat → Value) (w : World) : Prop := Below wz.heap.size wz w ∧ (b 0 = true → ∃ m, vs 0 = .map (some m) ∧ w.ownsMap Try.prog 5 RF m 10 KD)
theorem FR.step {wz w : World} {b : Nat → Bool} {vs : Nat → Value} (h : FR wz b vs w) {i : Nat} (hi : 0 ≠ i) {v : Value} : FR wz (Free.updb b i) (Free.updw vs i v) w := by
  refine ⟨h.1, ?_⟩
  rw [Free.updb_ne hi, Free.updw_ne hi]; exact h.2
theorem num_kind {n : Nd} (hnum : n.num = true) : 1 ≤ n.k ∧ n.k ≤ 10 := by
  unfold Nd.num at hnum
  split at hnum
  · omega
  · split at hnum
    · omega
    · split at hnum
      · omega
      · split at hnum
        · omega
        · have := of_decide_eq_true hnum; omega
theorem makes_len0 {n : Nd} (h : n.want = 0) : makesR n [] = [] := by
  have hk : n.k = 1 := by
    unfold Nd.want at h
    split at h
    · assumption
    · split at h <;> omega
  unfold makesR; rw [if_neg (by omega), if_neg (by omega), if_neg (by omega), if_neg (by omega)]; rfl
theorem makes_len {n : Nd} {ls : List (List Rd)} (hw : ls.length = n.want) (hl : ∀ l ∈ ls, l.length ≤ 200) : (makesR n ls).length ≤ 100000 := by
  have hw2 : n.want ≤ 2 := by
    unfold Nd.want
    split
    · omega
    · split <;> omega
  match ls, hw, hl with
  | [], hw, _ => rw [makes_len0 hw.symm]; simp
  | [a], _, hl => have := makes_len1 (n := n) (a := a); have := hl a (by simp); omega
  | [a, b], _, hl =>
    have h1 := makes_len2 (n := n) (a := a) (b := b); have h2 := hl a (by simp); have h3 := hl b (by simp)
    have h4 : a.length * b.length ≤ 200 * 200 := Nat.mul_le_mul h2 h3
    omega
  | _ :: _ :: _ :: _, hw, _ => simp at hw; omega
set_option maxHeartbeats 1000000 in
theorem run_v {w : World} {v : Value} {ls : List (List Rd)} (n : Nd) (NA : Option Addr) (nm nc : Nat) (hI : InV w v ls) (hk : n.k < 256) (ha : n.a < 256) (hb : -9223372036854775808 ≤ n.b ∧ n.b ≤ 9223372036854775807) (hd : -9223372036854775808 ≤ n.d ∧ n.d ≤ 9223372036854775807)
    (hr : ls.length ≤ 40) (hW : ∀ l ∈ ls, ∀ r ∈ l, r.W) (hl : ∀ l ∈ ls, l.length ≤ 200) :
    Calls Try.prog 14 #[nodeV n NA nm nc, v] w (GivesE (runR n ls) (errR n ls.length) w) := by
  obtain ⟨nk, na, nb, ndp, nins⟩ := n
  simp only at hk ha hb hd
  have hbx := node_box w ⟨nk, na, nb, ndp, nins⟩ NA nm nc
  have hb1 := (Below.refl _ w).alloc (Nat.le_refl _) (.cells #[.int .u8 (nk : Nat), .int .u8 (na : Nat), .int .i64 nb, .int .i64 ndp, .slice NA nm nc] 24)
  simp only at hbx
  have HC := Lib.hid fun w' => opFault_any nk na nb ndp NA nm nc ls.length nins w' hk ha hb hd hr
  have hI0 := hI
  obtain ⟨IA, ic, L, rfl, hL0⟩ := hI0
  clear hL0 L
  have HB1 := Lib.hid hb1; have HBX := Lib.hid hbx; have HI := Lib.hid hI
  clear hb1 hbx hI
  rcases errR_cases ⟨nk, na, nb, ndp, nins⟩ ls.length with ⟨he, _⟩ | ⟨he, _⟩ | ⟨he, hnum, hwant⟩
  · have hrr : runR ⟨nk, na, nb, ndp, nins⟩ ls = [] := by unfold runR; rw [he]; rfl
    rw [hrr]
    rw [he] at HC ⊢
    clear hrr he
    go_enter Try.func14, Try.ntmps14
    go_wp2_with fail
    refine (HC.out _).mono ?_; rintro e w2 ⟨rfl, hb2⟩
    have HB2 := Lib.hid (HB1.out.trans (hb2.mono HB1.out.size)); clear hb2
    dsimp only
    go_wp2_with fail
    go_ret2
    exact ⟨⟨_, rfl, RowV.nil _⟩, HB2.out⟩
  · have hrr : runR ⟨nk, na, nb, ndp, nins⟩ ls = [] := by unfold runR; rw [he]; rfl
    rw [hrr]
    rw [he] at HC ⊢
    clear hrr he
    go_enter Try.func14, Try.ntmps14
    go_wp2_with fail
    refine (HC.out _).mono ?_; rintro e w2 ⟨rfl, hb2⟩
    have HB2 := Lib.hid (HB1.out.trans (hb2.mono HB1.out.size)); clear hb2
    dsimp only
    go_wp2_with fail
    go_ret2
    exact ⟨⟨_, rfl, RowV.nil _⟩, HB2.out⟩
  · have hrr : runR ⟨nk, na, nb, ndp, nins⟩ ls = sortR (makesR ⟨nk, na, nb, ndp, nins⟩ ls) := by unfold runR; rw [he]; rfl
    rw [hrr]
    rw [he] at HC ⊢
    have hkk : 1 ≤ nk ∧ nk ≤ 10 := num_kind (n := ⟨nk, na, nb, ndp, nins⟩) hnum
    have hdoes := fun w' (hb' : Below w.heap.size w w') => does_v (w := w') ⟨nk, na, nb, ndp, nins⟩ NA nm nc (HI.out.below hb') hnum hwant hW hl hb.2
    have hml : (makesR ⟨nk, na, nb, ndp, nins⟩ ls).length ≤ 100000 := makes_len hwant hl
    have HD := Lib.hid hdoes; have HML := Lib.hid hml
    have HF := Lib.hid (does_func nk)
    clear hrr he hdoes hml hW hl hnum hwant
    go_enter Try.func14, Try.ntmps14
    go_wp2_with fail
    refine (HC.out _).mono ?_; rintro e w2 ⟨rfl, hb2⟩
    have hbox := HBX.out.below hb2 HBX.out.lt
    have HB2 := Lib.hid (HB1.out.trans (hb2.mono HB1.out.size)); have HBOX := Lib.hid hbox; clear hb2 hbox HB1 HBX
    dsimp only
    go_upto_region 4 with fail
    refine Free.wp_key (by kernel_rfl) (by kernel_rfl) (FR w2) (vtR w.heap.size nk) (fun vs => ⟨(Below.refl _ _).drew, by simp⟩) ?_ ?_
    · intro i o hi b vs a wa hold hpre hbi hF
      match i with
      | 0 =>
        cases hi
        refine Free.c_all rfl (Free.g_call _ _ rfl Try.func30 (by kernel_rfl) rfl [] (by rfl) ?_)
        exact (kinds_any wa).mono fun e w5 ⟨⟨m, he, ho⟩, hb5⟩ => ⟨_, he, trivial, hF.1.trans (hb5.mono hF.1.size), fun _ => ⟨m, Free.updw_self, ho⟩⟩
      | 1 =>
        cases hi
        have h0 : a.eval (.tmp 2) = .pointer (some ⟨w.heap.size, 0, none⟩) := (hold 2 (by decide)).trans rfl
        exact Free.c_all rfl (Free.g_field (v := .pointer (some ⟨w.heap.size, 0, none⟩)) _ _ _ rfl h0 (by go_simp) ⟨rfl, hF.step (by decide)⟩)
      | 2 =>
        cases hi
        have h0 : a.eval (.tmp 16) = .pointer (some ⟨w.heap.size, 0, none⟩) := (hpre 1 _ _ (by kernel_rfl) rfl rfl).2.2
        have hc := (HBOX.out.below hF.1 HBOX.out.lt).cell 0
        simp only [List.getElem?_cons_zero] at hc
        exact Free.c_all rfl (Free.g_load (v := .int .u8 (nk : Nat)) _ _ rfl h0 (by go_simp) ⟨rfl, hF.step (by decide)⟩)
      | 3 =>
        cases hi
        have h0 := hpre 0 _ _ (by kernel_rfl) rfl rfl
        have h1 : a.eval (.tmp 17) = .int .u8 (nk : Nat) := (hpre 2 _ _ (by kernel_rfl) rfl rfl).2.2
        obtain ⟨m, hm, ho⟩ := hF.2 h0.1
        exact Free.c_all rfl (m_lookup _ _ _ _ rfl _ _ (h0.2.1.trans hm) h1 (look_kind ho hkk.1 hkk.2) ⟨rfl, hF.step (by decide)⟩)
      | 4 =>
        cases hi
        have h0 : a.eval (.tmp 18) = fnV (doesF nk) := (hpre 3 _ _ (by kernel_rfl) rfl rfl).2.2
        exact Free.c_all rfl (Free.g_assign _ rfl ⟨h0, hF.step (by decide)⟩)
      | _ + 5 => cases hi
    · intro vs we hv hF
      have hlast : vs 4 = fnV (doesF nk) := hv 4 (by simp) (by rintro o ⟨⟩; rfl)
      have hbe := HB2.out.trans (hF.1.mono HB2.out.size)
      have hboxe := HBOX.out.below hF.1 HBOX.out.lt
      have hld := load_node (n := ⟨nk, na, nb, ndp, nins⟩) hboxe
      obtain ⟨m0, m1, m2, m3, m4⟩ := cells5 hboxe
      have hdo := HD.out we hbe
      have HDO := Lib.hid hdo; have HBE := Lib.hid hbe
      clear hF hv hdo hbe hboxe HB2 HBOX HD HC hld
      simp only [Free.puts, Nat.reduceAdd, hlast]
      generalize vs 0 = y0; generalize vs 1 = y1; generalize vs 2 = y2; generalize vs 3 = y3
      clear hlast
      generalize doesF nk = DF at *
      have hff := HF.out
      go_simp
      go_wp2_with fail
      refine HDO.out.mono ?_; rintro e w5 ⟨⟨v5, l5, rfl, hp, hr5⟩, hb5⟩
      have hs := sortR_iff.2 hp
      have hsv := sorted_v hr5 (by rw [hp.length_eq]; exact HML.out)
      rw [hs] at hsv
      have HSV := Lib.hid hsv; have HB5 := Lib.hid (HBE.out.trans (hb5.mono HBE.out.size))
      obtain ⟨A5, c5, rfl, _⟩ := hr5
      clear hs hsv hp hb5 hff m0 m1 m2 m3 m4 HDO
      dsimp only
      go_wp2_with fail
      refine HSV.out.mono ?_; rintro e w6 ⟨⟨v6, rfl, hr6⟩, hb6⟩
      have HR6 := Lib.hid hr6; have HB6 := Lib.hid (HB5.out.trans (hb6.mono HB5.out.size)); clear hr6 hb6
      dsimp only
      go_wp2_with fail
      go_ret2
      exact ⟨⟨_, rfl, HR6.out⟩, HB6.out⟩
end Op
end
end Go.Proofs.Ytcjdjdhjbchaaaa
