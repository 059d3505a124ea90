/- OpReduce, OpJoin -/
import Derived.Test.YtcjdjdhjbchaaaaCa13
namespace Go.Proofs.Ytcjdjdhjbchaaaa
set_option linter.unusedVariables false
section
namespace Op
open Go.ChangeShapes Go.WideShapes Go.ChangeAt Go.RowKit Go.BigFrame Go.Shelf Vr
set_option maxRecDepth 100000
@[reducible] noncomputable def RE (w : World) (base : Nat) : Value → Option (DataW Unit × List MemPlace) := rowElem (H := Unit) w base 2 .i64
theorem GOwn.map {w : World} {base B n : Nat} {D : DataW Unit} (h : GOwn w base B n D) : w.ownsMap Try.prog 2 (RE w base) B n D := by
  obtain ⟨es, clock, hb, F, hs, hD, _⟩ := h
  exact ⟨es, clock, hb, F, hs, hD⟩
def mkV (s : Option Addr × Nat × Nat) : Value := .slice s.1 s.2.1 s.2.2
theorem RE_inv {w : World} {base : Nat} {v : Value} {y : DataW Unit × List MemPlace} (h : RE w base v = some y) : ∃ s, v = mkV s := by
  obtain ⟨zs, ho, _⟩ := rowElem_inv h
  rcases ho.1.2 with ⟨rfl, _⟩ | ⟨g, cap, cur, rfl, _⟩
  · exact ⟨(none, 0, 0), rfl⟩
  · exact ⟨(some ⟨g, 0, none⟩, _, cap), rfl⟩
theorem key64_inv {key : Value} {kl : Lit} (h : keyOf Try.prog 2 key = some kl) : ∃ x, key = .int .i64 x := by
  obtain ⟨x, e, _⟩ := Go.Maps.keyOf_int_inv Try.underlying2 h
  exact ⟨x, e⟩
/-- which keys have been told -/
structure Told (l : List Rd) (left : Lit → Bool) (ks : List Int) : Prop where
  nodup : ks.Nodup
  all : ∀ k : Int, k ∈ keysOf l ↔ k ∈ ks ∨ left (.int .i64 k) = true
  gone : ∀ k ∈ ks, left (.int .i64 k) = false
theorem Told.start {l : List Rd} {D : DataW Unit} (h : GD D l) : Told l (Maps.has D) [] := ⟨by simp, fun k => by rw [h.has k]; simp, by simp⟩
theorem Told.step {l : List Rd} {left : Lit → Bool} {ks : List Int} (h : Told l left ks) {k : Int} (hk : left (.int .i64 k) = true) : Told l (fun z => left z && !z.sameKey (.int .i64 k)) (ks ++ [k]) := by
  have hn : k ∉ ks := fun hm => by rw [h.gone k hm] at hk; cases hk
  have hs : ∀ j : Int, (Lit.int .i64 j).sameKey (.int .i64 k) = decide (j = k) := fun j => by
    by_cases e : j = k
    · subst e; rw [WideAt.sameKey_self keyLit64]; simp
    · rw [Maps.sameKey_ne (by simpa using e)]; simp [e]
  refine ⟨?_, fun j => ?_, fun j hj => ?_⟩
  · rw [List.nodup_append]
    exact ⟨h.nodup, by simp, fun a ha b hb => by rw [List.mem_singleton] at hb; subst hb; rintro rfl; exact hn ha⟩
  · rw [h.all j, hs, List.mem_append, List.mem_singleton]
    by_cases e : j = k
    · subst e; simp [hk]
    · simp [e]
  · rw [hs]
    rcases List.mem_append.1 hj with hj | hj
    · rw [h.gone j hj]; rfl
    · rw [List.mem_singleton] at hj; subst hj; simp
theorem Told.done {l : List Rd} {left : Lit → Bool} {ks : List Int} (h : Told l left ks) (h0 : ∀ kl, left kl = false) : ks.Perm (keysOf l) :=
  (List.perm_ext_iff_of_nodup h.nodup nodup_keysOf).2 fun k => by rw [h.all k, h0]; simp
/-- an element of the map is the numbers of its key -/
theorem elem_vals {w : World} {base : Nat} {D : DataW Unit} {l : List Rd} {k : Int} {v : Value} {y : DataW Unit × List MemPlace} (hG : GD D l) (hk : k ∈ keysOf l) (hR : RE w base v = some y) (hat : ∀ zd, D.atKey (.int .i64 k) zd = y.1) : w.ownsInts base 2 .i64 v (valsOf l k) := by
  obtain ⟨zs, ho, rfl⟩ := rowElem_inv hR
  have h1 := hat .nil
  have h2 := hG.look ho h1
  rw [← h2]; exact ho
theorem ints_ts {w : World} {base : Nat} {v : Value} {zs : List Int} (h : w.ownsInts base 2 .i64 v zs) : ∃ A c, v = .slice A zs.length c ∧ Rw.Ts kindI w A zs := by
  have h1 : w.ownsRow base 2 kindI.K v zs.length (Rw.row kindI zs) := by rw [row_ints]; exact h.1
  obtain ⟨A, c, e, hT, _⟩ := Rw.Ts.of_own h1
  exact ⟨A, c, e, hT⟩
set_option maxHeartbeats 8000000 in
theorem reduce_v {w : World} {v : Value} {l : List Rd} (n : Nd) (NA : Option Addr) (nm nc : Nat) (hI : InV w v [l]) (hW : ∀ r ∈ l, r.W) (hl : l.length ≤ 10000) (ha : n.a ≤ 3) :
    Calls Try.prog 56 #[nodeV n NA nm nc, v] w (GivesP (reduceR n.a l) w) := by
  obtain ⟨B, o, c, A, k, rfl, hT, hn, hc⟩ := hI.at_ (i := 0) (l := l) rfl
  have hb1 := (Below.refl _ w).alloc (Nat.le_refl _) (.cells #[.int .u8 (n.k : Nat), .int .u8 (n.a : Nat), .int .i64 n.b, .int .i64 n.d, .slice NA nm nc] 24)
  have hbx := node_box w n NA nm nc
  have q0 := hc _ hb1
  rw [Nat.add_zero] at q0
  have HC := Lib.hid (byKeys_any A l k _ (hT.below hb1) hW (by omega))
  have HB1 := Lib.hid hb1; have HBX := Lib.hid hbx
  clear hI hc hT hn hb1 hbx hW
  go_enter Try.func56, Try.ntmps56
  go_wp2_with fail
  clear q0
  generalize hW1 : w.alloc (.cells #[.int .u8 (n.k : Nat), .int .u8 (n.a : Nat), .int .i64 n.b, .int .i64 n.d, .slice NA nm nc] 24) = w1 at *
  clear hW1
  refine HC.out.mono ?_; rintro e w2 ⟨⟨M, base, N, D, rfl, hG, hgd, hN⟩, hb2⟩
  clear HC
  have hbox := HBX.out.below hb2 HBX.out.lt
  have hb2' := HB1.out.trans (hb2.mono HB1.out.size)
  have hown := hG.map
  have hML := hown.lt
  have hsz0 := hown.size_le
  have HGD := Lib.hid hgd; have HBOX := Lib.hid hbox; have HB2 := Lib.hid hb2'; have HML := Lib.hid hML; have HN := Lib.hid (Nat.le_trans hsz0 hN)
  clear hgd hbox hb2' hb2 HBX HB1 hG hML hsz0 hN
  dsimp only
  go_wp2_with (first
    | (at_range; refine wpList_range_own _ rfl _ 79 rfl 2 58 keyed64 Try.underlying79 (RE w2 base) M N D rfl hown ?_; intro w0 hrg0 hg0 hs0)
    | go_in)
  go_frame
  have HRG := Lib.hid hrg0
  have HB0 := Lib.hid (show Below w2.heap.size w2 w0 from (Below.refl w2.heap.size w2).grown hg0 (Nat.le_refl _) (fun k e => by cases e))
  have HZ := Lib.hid hs0
  clear hrg0 hg0 hs0 hown
  obtain ⟨gr, hgr⟩ : ∃ gr, w2.heap.size = gr := ⟨_, rfl⟩
  rw [hgr] at HRG HZ HML HB0 ⊢
  have HG := Lib.hid hgr; clear hgr
  go_loopw [5] (fun fv wr => ∃ (left : Lit → Bool) (cn : Nat) (ks : List Int), wr.ranges Try.prog 2 (RE w2 base) M gr N D left cn ∧ ks.length + cn ≤ l.length ∧ Told l left ks ∧ Below gr w2 wr ∧ wr.ownsRow (gr + 1) 36 kindR.K fv (ks.map fun k => (⟨k, redV n.a (valsOf l k)⟩ : Rd)).length (Rw.row kindR (ks.map fun k => (⟨k, redV n.a (valsOf l k)⟩ : Rd))))
    (fun _ wr => wr.rangeLeft M gr)
  case atStart => exact ⟨_, _, [], HRG.out, by simpa using HN.out, Told.start HGD.out, HB0.out, World.ownsRow_nil _ _ _ _⟩
  case round =>
    obtain ⟨left, cn, ks, hrg, hcs, htold, hbw, hro⟩ := hrel
    have HTOLD := Lib.hid htold; have HRO := Lib.hid hro; have HBW := Lib.hid hbw; have HCS := Lib.hid hcs; have HRG0 := Lib.hid hrg
    clear htold hro hbw hcs
    go_wp2_with (first
      | (at_next; refine wpList_next_ranges _ rfl _ rfl 2 keyed64 (RE w2 base) (Value.int .i64) mkV (fun key kl hk => key64_inv hk) (fun v y hv => RE_inv hv) M gr N _ _ _ rfl hrg ?_ ?_)
      | go_in)
    · intro hc0 hl0
      have hp := HTOLD.out.done hl0
      have HP := Lib.hid hp; clear hp hc0 hl0 hrg
      go_wp2_with fail
      go_ret
      refine ⟨⟨_, _, rfl, HP.out.map _, RowV.own HRO.out⟩, ?_⟩
      have hbw := HBW.out
      rw [← HG.out] at hbw
      exact HB2.out.trans (hbw.mono HB2.out.size)
    · intro x VA0 vn0 vc0 kl yd yp w3 cn2 hkey hlk hR hat hrg2 hlt hg2 hs2 hen
      obtain ⟨x', ex, rfl, hwx⟩ := Go.Maps.keyOf_int_inv Try.underlying2 hkey
      injection ex with _ ex
      subst ex
      have hxk : x ∈ keysOf l := (HTOLD.out.all x).2 (.inr hlk)
      have hints := elem_vals HGD.out hxk hR hat
      obtain ⟨VA, vc, hsl, hT⟩ := ints_ts hints
      have hv0 : 1 ≤ (valsOf l x).length := by
        have : valsOf l x ≠ [] := fun e => (valsOf_none.1 e) hxk
        cases hh : valsOf l x with
        | nil => exact absurd hh this
        | cons a b => simp
      have hvl : (valsOf l x).length ≤ 100000 := Nat.le_trans valsOf_len (by omega)
      rw [hsl] at hen ⊢
      have ht2 := HTOLD.out.step hlk
      have hb3 : Below gr w2 w3 := HBW.out.grown hg2 (by have := HBW.out.size; have := HG.out; omega) (fun j e => by cases e; exact Nat.le_refl _)
      have hro3 : w3.ownsRow (gr + 1) 36 kindR.K u5 (ks.map fun k => (⟨k, redV n.a (valsOf l k)⟩ : Rd)).length (Rw.row kindR (ks.map fun k => (⟨k, redV n.a (valsOf l k)⟩ : Rd))) := by
        refine HRO.out.kept hg2 ?_
        cases hob : u5.ownBlock with
        | none => exact .inl rfl
        | some j => exact .inr (by have := (HRO.out.lt j hob).1; simp; omega)
      have hbw' : Below w2.heap.size w2 w3 := by rw [HG.out]; exact hb3
      have hc0 := reduced_any n NA nm nc VA (valsOf l x) vc w3 ha (hT.below hbw') hv0 hvl
      have hbox3 := HBOX.out.below hbw' HBOX.out.lt
      have hgz : gr < w3.heap.size := by have := hrg2.lt; exact this
      have hcs2 : ks.length + 1 + cn2 ≤ l.length := by have := HCS.out; omega
      obtain ⟨m0, m1, m2, m3, m4⟩ := cells5 hbox3
      have HC0 := Lib.hid hc0; have HT2 := Lib.hid ht2; have HB3 := Lib.hid hb3; have HRO3 := Lib.hid hro3; have HRG2 := Lib.hid hrg2; have HGZ := Lib.hid hgz; have HCS2 := Lib.hid hcs2; have HLT := Lib.hid hlt
      clear hc0 ht2 hb3 hro3 hrg2 hgz hcs2 hlt hrg hkey hlk hR hat hg2 hs2 hxk hints hsl hT hbw' hbox3 hwx HTOLD HRO
      obtain ⟨us, hus⟩ : ∃ us, (ks.map fun k => (⟨k, redV n.a (valsOf l k)⟩ : Rd)) = us := ⟨_, rfl⟩
      have hul : us.length = ks.length := by rw [← hus, List.length_map]
      have HUS : Hid ((ks ++ [x]).map (fun k => (⟨k, redV n.a (valsOf l k)⟩ : Rd)) = us ++ [⟨x, redV n.a (valsOf l x)⟩]) := Lib.hid (by rw [List.map_append, hus]; rfl)
      rw [hus] at HRO3
      have HUL : Hid (us.length ≤ 10000) := Lib.hid (by have := HCS2.out; omega)
      clear hus hul
      generalize hrv : redV n.a (valsOf l x) = rv at *
      clear hrv
      go_wp2_with fail
      refine HC0.out.mono ?_; rintro e w5 ⟨rfl, hb5⟩
      clear HC0 m0 m1 m2 m3 m4
      have hB5 := HB3.out.trans (hb5.mono (by have := HB3.out.size; have := HG.out; have := HGZ.out; omega))
      have hrg5 := HRG2.out.kept (Rw.grown_below hb5 none) (by simp) (by simp)
      have hro5 := Rw.own_kept HRO3.out hb5
      have hgz5 : gr + 1 ≤ w5.heap.size := by have := HGZ.out; have := hb5.size; omega
      have HB5 := Lib.hid hB5; have HRG5 := Lib.hid hrg5; have HRO5 := Lib.hid hro5; have HGZ5 := Lib.hid hgz5
      clear hB5 hrg5 hro5 hgz5 hb5 HB3 HRG2 HRO3
      dsimp only
      have hul := HUL.out
      have HMD : Hid (Rw.Ts kindR (w5.alloc (.cells #[.int .i64 x, .int .i64 rv] 36)) (some ⟨w5.heap.size, 0, none⟩) [(⟨x, rv⟩ : Rd)]) := Lib.hid (Rw.Ts.made w5 [(⟨x, rv⟩ : Rd)] _)
      go_wp2_with (at_builtin; refine Rw.append_own kindR 36 28 Try.underlying28 infoRec rfl rfl _ _ rfl (gr + 1) _ us.length us rfl (HRO5.out.alloc _) _ 1 [(⟨x, rv⟩ : Rd)] rfl (by simp) HMD.out (by unfold maxLen; simp; omega) (by simp; omega) (by have := HGZ5.out; simp; omega) ?_; intro v6 w6 hv6 hg6)
      have hb6 : Below gr w2 w6 := (HB5.out.alloc (by have := HGZ5.out; omega) _).grown hg6 (by have := HGZ5.out; simp; omega) (fun j e => by have := ((HRO5.out.alloc (.cells #[.int .i64 x, .int .i64 rv] 36)).lt j e).1; omega)
      have hrg6 : w6.ranges Try.prog 2 (RE w2 base) M gr N D _ cn2 := (HRG5.out.alloc (.cells #[.int .i64 x, .int .i64 rv] 36)).kept hg6 (by intro e; have := ((HRO5.out.alloc (.cells #[.int .i64 x, .int .i64 rv] 36)).lt M e.symm).1; have := HML.out; omega) (by intro e; have := ((HRO5.out.alloc (.cells #[.int .i64 x, .int .i64 rv] 36)).lt gr e.symm).1; omega)
      have HV6 : Hid (w6.ownsRow (gr + 1) 36 kindR.K v6 (us ++ [(⟨x, rv⟩ : Rd)]).length (Rw.row kindR (us ++ [(⟨x, rv⟩ : Rd)]))) := Lib.hid (by rw [List.length_append]; exact hv6)
      have HB6 := Lib.hid hb6; have HRG6 := Lib.hid hrg6
      clear hb6 hrg6 hv6 hg6
      go_wp2_with fail
      go_roundw
      case rel => exact ⟨_, cn2, ks ++ [x], HRG6.out, by rw [List.length_append]; have := HCS2.out; simp; omega, HT2.out, HB6.out, by rw [HUS.out]; exact HV6.out⟩
      case measure => rw [HRG6.out.left_eq, HRG0.out.left_eq]; exact HLT.out
end Op
end

section
namespace Op
open Go.ChangeShapes Go.WideShapes Go.ChangeAt Go.RowKit Go.BigFrame Go.Shelf Vr
set_option maxRecDepth 100000
/-- what has been made of the first one's i records, and of j numbers for the next one -/
def joined (a b : List Rd) (i j : Nat) (r : Rd) : List Rd := joinR (a.take i) b ++ ((valsOf b r.k).take j).map fun v => (⟨r.k, wrap64 (r.v + v)⟩ : Rd)
theorem joined_zero (a b : List Rd) (i : Nat) (r : Rd) : joined a b i 0 r = joinR (a.take i) b := by unfold joined; simp
theorem joined_step (a b : List Rd) (i j : Nat) (r : Rd) {v : Int} (h : (valsOf b r.k)[j]? = some v) : joined a b i (j + 1) r = joined a b i j r ++ [⟨r.k, wrap64 (r.v + v)⟩] := by
  unfold joined; rw [take_at h, List.map_append, ← List.append_assoc]; rfl
theorem joinR_snoc (x b : List Rd) (r : Rd) : joinR (x ++ [r]) b = joinR x b ++ (valsOf b r.k).map fun v => (⟨r.k, wrap64 (r.v + v)⟩ : Rd) := by
  rw [joinR_app]; unfold joinR; simp
theorem joined_end (a b : List Rd) (i : Nat) (r : Rd) (h : a[i]? = some r) : joined a b i (valsOf b r.k).length r = joinR (a.take (i + 1)) b := by
  rw [Vr.take_snoc h, joinR_snoc]; unfold joined; rw [List.take_length]
theorem joined_len (a b : List Rd) (i j : Nat) (r : Rd) : (joined a b i j r).length ≤ a.length * b.length + b.length := by
  unfold joined
  rw [List.length_append, List.length_map, List.length_take]
  have h1 := joinR_len (a := a.take i) (b := b)
  have h2 := valsOf_len (l := b) (k := r.k)
  have h3 : (a.take i).length * b.length ≤ a.length * b.length := Nat.mul_le_mul_right _ (by rw [List.length_take]; omega)
  omega
/-- append of records onto a row of the call's own: and where the new row lies -/
theorem append_rec_at {w : World} {ops : Array Oper} {rest : List Oper} {o : Oper} {a : Act} {Q : Exit → Act → World → Prop} (hgd : o.guard = none) (s x : Operand)
    (ho : o.op = .call { callee := .builtin .append, args := #[s, x], argTypes := #[28, 28] })
    (base : Nat) (v : Value) (n : Nat) (ts : List Rd) (hs : a.eval s = v) (hown : w.ownsRow base 36 kindR.K v n (Rw.row kindR ts))
    (ad : Addr) (c : Nat) (ys : List Rd) (hx : a.eval x = .slice (some ad) ys.length c) (hb : Rw.Ts kindR w (some ad) ys)
    (hle : n + ys.length ≤ maxLen) (hby : (n + ys.length) * 16 ≤ 140737488355328) (hbase : base ≤ w.heap.size)
    (h : ∀ v' w', w'.ownsRow base 36 kindR.K v' (n + ys.length) (Rw.row kindR (ts ++ ys)) → w.grownBy w' v.ownBlock → (v'.ownBlock = v.ownBlock ∨ v'.ownBlock = some w.heap.size) → wpList Try.prog ops Q rest (a.put o.dst v') w') : wpList Try.prog ops Q (o :: rest) a w := by
  obtain ⟨i, hi, hz0, hz1, hz2⟩ := info_parts infoRec
  refine wpList_append_own_at w hgd s x 28 ho base 36 i _ kindR.K 16 Try.underlying28 hi hz0 hz1 hz2 rfl kindR.pos v n (Rw.row kindR ts) hs hown ad ys.length c (Rw.row kindR ys) hx (Rw.row_len ys) ?_ (Rw.row_one ys) hle hby hbase ?_
  · intro j u hj
    by_cases h0 : 0 < ys.length
    · obtain ⟨b, o', e, _, hc⟩ := hb h0
      cases e
      have := hc j u hj
      cases j with
      | zero => exact this
      | succ j => exact this
    · have : ys = [] := by cases ys with
        | nil => rfl
        | cons y ys => simp at h0
      subst this
      simp [Rw.row] at hj
  · intro v' w' h1 h2 _ h4
    exact h v' w' (by rw [Rw.row_append]; exact h1) h2 h4
set_option maxHeartbeats 8000000 in
theorem join_v {w : World} {v : Value} {a b : List Rd} (n : Nd) (NA : Option Addr) (nm nc : Nat) (hI : InV w v [a, b]) (hW : ∀ r ∈ b, r.W) (hWa : ∀ r ∈ a, r.W) (hla : a.length ≤ 200) (hlb : b.length ≤ 200) :
    Calls Try.prog 59 #[nodeV n NA nm nc, v] w (GivesP (joinR a b) w) := by
  obtain ⟨B, o, c, A, k, rfl, hT, hn, hc⟩ := hI.at_ (i := 1) (l := b) rfl
  obtain ⟨B', o', c', A2, k2, e2, hT2, hn2, hc2⟩ := hI.at_ (i := 0) (l := a) rfl
  cases e2
  have hb1 := (Below.refl _ w).alloc (Nat.le_refl _) (.cells #[.int .u8 (n.k : Nat), .int .u8 (n.a : Nat), .int .i64 n.b, .int .i64 n.d, .slice NA nm nc] 24)
  have q0 := hc _ hb1
  have HC := Lib.hid (byKeys_any A b k _ (hT.below hb1) hW (by omega))
  have HB1 := Lib.hid hb1; have HT := Lib.hid hT2; have HQ := Lib.hid hc2; have HW := Lib.hid hWa
  clear hI hc hT hn hb1 hW hc2 hn2 hT2 hWa
  go_enter Try.func59, Try.ntmps59
  go_wp2_with fail
  clear q0
  generalize hW1 : w.alloc (.cells #[.int .u8 (n.k : Nat), .int .u8 (n.a : Nat), .int .i64 n.b, .int .i64 n.d, .slice NA nm nc] 24) = w1 at *
  clear hW1
  refine HC.out.mono ?_; rintro e w2 ⟨⟨M, base, N, D, rfl, hG, hgd, hN⟩, hb2⟩
  clear HC
  have hb2' := HB1.out.trans (hb2.mono HB1.out.size)
  have q0 := HQ.out w2 hb2'
  rw [Nat.add_zero] at q0
  have HGD := Lib.hid hgd; have HB2 := Lib.hid hb2'; have HG := Lib.hid hG; have HN := Lib.hid hN
  clear hgd hb2' hb2 HB1 hG hN
  dsimp only
  go_wp2_with fail
  clear q0
  go_loopw [6, 19] (fun fv vi wr => ∃ i : Nat, i ≤ a.length ∧ vi = .int .i64 i ∧ Below w2.heap.size w2 wr ∧ wr.ownsRow w2.heap.size 36 kindR.K fv (joinR (a.take i) b).length (Rw.row kindR (joinR (a.take i) b))) (fun _ vi _ => a.length - (intOf vi).toNat)
  case atStart => exact ⟨0, by omega, rfl, Below.refl _ _, World.ownsRow_nil _ _ _ _⟩
  case round =>
    obtain ⟨i, hi, rfl, hb0, hown⟩ := hrel
    have HO := Lib.hid hown; have HB := Lib.hid hb0; clear hown hb0
    by_cases hlt : i < a.length
    · have hltz : (i : Int) < (a.length : Int) := by omega
      obtain ⟨r, hr⟩ : ∃ r, a[i]? = some r := ⟨_, List.getElem?_eq_getElem hlt⟩
      obtain ⟨b1, o1, rfl, hb1, hcl⟩ := recs_at HT.out hr
      obtain ⟨e0, e1⟩ := hcl wr (HB2.out.trans (HB.out.mono HB2.out.size))
      have hrW := HW.out r (List.mem_of_getElem? hr)
      have HR := Lib.hid hr; have HRW := Lib.hid hrW; clear hr hcl hrW
      go_upto_region 6 with fail
      have hrw := Row.made wr 36 [.int .i64 r.k, .int .i64 r.v]
      have hal := (Below.refl wr.heap.size wr).alloc (Nat.le_refl _) (.cells #[.int .i64 r.k, .int .i64 r.v] 36)
      simp only [List.toArray] at hrw
      clear e0 e1
      generalize wr.alloc (.cells #[.int .i64 r.k, .int .i64 r.v] 36) = wz at *
      have hsz : wr.heap.size < wz.heap.size := hrw.lt
      have hO1 := Rw.own_kept HO.out hal
      have hBz := HB.out.trans (hal.mono HB.out.size)
      have hB2 : w2.heap.size ≤ wr.heap.size := HB.out.size
      have hown := (HG.out.below hBz)
      obtain ⟨vv, zs, hrun, hat, hoi, hzl, _⟩ := hown.at keyed64 (t := 79) Try.underlying79 (zero_ints _) (by have := HN.out; unfold maxLen; omega) (key64 HRW.out.1)
      have hz := HGD.out.look hoi hat
      subst hz
      obtain ⟨VA, vc, rfl, _⟩ := ints_ts hoi
      have hne : ∀ k, u6.ownBlock = some k → k ≠ wr.heap.size := fun k e e2 => by have := (HO.out.lt k e).2; omega
      have HSZ := Lib.hid hsz; have HO1 := Lib.hid hO1; have HBZ := Lib.hid hBz; have HRUN := Lib.hid hrun; have HVT := Lib.hid hoi; have HRW2 := Lib.hid hrw; have HB2S := Lib.hid hB2; have HNE := Lib.hid hne
      clear hsz hO1 hBz hrun hat hoi hzl hown HO HB hal hB2 hne
      have hvl : (valsOf b r.k).length ≤ 200 := Nat.le_trans valsOf_len hlb
      generalize wr.heap.size = g2 at *
      obtain ⟨p0, p1⟩ := cells2 hrw
      have hrun := HRUN.out
      clear hrw
      go_wp2_with fail
      clear hrun p0 p1
      go_loopw [6, 28] (fun fv vj wy => ∃ j : Nat, j ≤ (valsOf b r.k).length ∧ vj = .int .i64 j ∧ Below w2.heap.size w2 wy ∧ Row wy g2 36 [.int .i64 r.k, .int .i64 r.v] ∧ wy.ownsInts base 2 .i64 (.slice VA (valsOf b r.k).length vc) (valsOf b r.k) ∧ (∀ k, fv.ownBlock = some k → k ≠ g2) ∧ wy.ownsRow w2.heap.size 36 kindR.K fv (joined a b i j r).length (Rw.row kindR (joined a b i j r))) (fun _ vj _ => (valsOf b r.k).length - (intOf vj).toNat)
      case atStart => exact ⟨0, by omega, rfl, HBZ.out, HRW2.out, HVT.out, HNE.out, by rw [joined_zero]; exact HO1.out⟩
      case round =>
        clear HBZ HRW2 HVT HNE HO1 HRUN HSZ
        obtain ⟨j, hj, rfl, hby, hrow, hints, hne, hoy⟩ := hrel
        have HBY := Lib.hid hby; have HOY := Lib.hid hoy; have HROW := Lib.hid hrow; have HINT := Lib.hid hints; have HNE := Lib.hid hne; clear hby hoy hrow hints hne
        have hjl := joined_len a b i j r
        have hab : a.length * b.length ≤ 200 * 200 := Nat.mul_le_mul hla hlb
        have HJL : Hid ((joined a b i j r).length ≤ 40200) := Lib.hid (by omega)
        clear hjl hab
        by_cases hjt : j < (valsOf b r.k).length
        · have hjz : (j : Int) < ((valsOf b r.k).length : Int) := by omega
          obtain ⟨v, hv⟩ : ∃ v, (valsOf b r.k)[j]? = some v := ⟨_, List.getElem?_eq_getElem hjt⟩
          obtain ⟨VA', vc', e', hVT⟩ := ints_ts HINT.out
          cases e'
          obtain ⟨b3, o3, rfl, hb3, hq3⟩ := ints_at hVT hv
          have q3 := hq3 wr (Below.refl _ _)
          have hst := joined_step a b i j r hv
          obtain ⟨p0, p1⟩ := cells2 HROW.out
          have hjn := HJL.out
          have hbs : w2.heap.size ≤ wr.heap.size := HBY.out.size
          have HST := Lib.hid hst; have HBS := Lib.hid hbs
          clear hq3 hst hv hbs hVT
          generalize joined a b i j r = us at *
          have HMD : Hid (Rw.Ts kindR (wr.alloc (.cells #[.int .i64 r.k, .int .i64 (wrap64 (r.v + v))] 36)) (some ⟨wr.heap.size, 0, none⟩) [(⟨r.k, wrap64 (r.v + v)⟩ : Rd)]) := Lib.hid (Rw.Ts.made wr [(⟨r.k, wrap64 (r.v + v)⟩ : Rd)] _)
          have HG2 := Lib.hid HROW.out.lt
          go_wp2_with (at_builtin; refine append_rec_at rfl _ _ rfl w2.heap.size _ us.length us rfl (HOY.out.alloc _) _ 1 [(⟨r.k, wrap64 (r.v + v)⟩ : Rd)] rfl HMD.out (by unfold maxLen; simp; omega) (by simp; omega) (by have := HBS.out; simp; omega) ?_; intro v6 w6 hv6 hg6 hl6)
          have hoa := HOY.out.alloc (.cells #[.int .i64 r.k, .int .i64 (wrap64 (r.v + v))] 36)
          have hb6 : Below w2.heap.size w2 w6 := (HBY.out.alloc HBS.out _).grown hg6 (by have := HBS.out; simp; omega) (fun j e => (hoa.lt j e).1)
          have hr6 := (HROW.out.alloc (.cells #[.int .i64 r.k, .int .i64 (wrap64 (r.v + v))] 36)).grown hg6 (fun e => HNE.out g2 e.symm rfl)
          have hi6 := (HINT.out.alloc (.cells #[.int .i64 r.k, .int .i64 (wrap64 (r.v + v))] 36)).kept hg6 (Rw.own_apart2 hoa (HINT.out.alloc (.cells #[.int .i64 r.k, .int .i64 (wrap64 (r.v + v))] 36)).1 (by decide))
          have hn6 : ∀ k, v6.ownBlock = some k → k ≠ g2 := fun k e => by
            rcases hl6 with h | h
            · rw [h] at e; exact HNE.out k e
            · rw [h] at e; cases e; have := HG2.out; simp; omega
          have HV6 : Hid (w6.ownsRow w2.heap.size 36 kindR.K v6 (us ++ [(⟨r.k, wrap64 (r.v + v)⟩ : Rd)]).length (Rw.row kindR (us ++ [(⟨r.k, wrap64 (r.v + v)⟩ : Rd)]))) := Lib.hid (by rw [List.length_append]; exact hv6)
          have HB6 := Lib.hid hb6; have HR6 := Lib.hid hr6; have HI6 := Lib.hid hi6; have HN6 := Lib.hid hn6
          clear hoa hb6 hr6 hi6 hn6 hv6 hg6 hl6 p0 p1 q3
          go_wp2_with fail
          go_roundw
          case rel => exact ⟨j + 1, by omega, by simp, HB6.out, HR6.out, HI6.out, HN6.out, by rw [HST.out]; exact HV6.out⟩
          case measure => simp only [intOf]; omega
        · have hjl : j = (valsOf b r.k).length := by omega
          subst hjl
          go_wp2_with fail
          go_roundw
          case rel => exact ⟨i + 1, by omega, by simp, HBY.out, by rw [← joined_end a b i r HR.out]; exact HOY.out⟩
          case measure => simp only [intOf]; omega
    · have hil : i = a.length := by omega
      subst hil
      go_wp2_with fail
      go_ret
      have ho := HO.out
      rw [List.take_length] at ho
      exact ⟨⟨_, _, rfl, List.Perm.refl _, RowV.own ho⟩, HB2.out.trans (HB.out.mono HB2.out.size)⟩
end Op
end
end Go.Proofs.Ytcjdjdhjbchaaaa
