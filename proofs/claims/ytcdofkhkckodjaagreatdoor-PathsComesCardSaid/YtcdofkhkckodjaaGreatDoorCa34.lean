/- FrFirst, FrConcat, FrOf, FrT, FrWorks, FrOpen, FrSlc -/
import Derived.Test.YtcdofkhkckodjaaGreatDoorCa33
import Derived.Deep.Slices
namespace Go.Proofs.YtcdofkhkckodjaaGreatDoor
set_option linter.unusedVariables false
section
open Go.ChangeShapes Go.WideShapes Go.ChangeAt Go.RowKit Go.BigFrame Go.Shelf
set_option maxRecDepth 100000
theorem sortedFunc_any (g N : Nat) (lb : Array Value) (S Sp : List RSt → Prop) (hN : N ≤ 5000000) (hS : ∀ xs, S xs → xs.length ≤ 5000000) (w0 w : World) (hb0 : Below w0.heap.size w0 w) (eg : ∀ args w, (callFunc g args).run Tryz.prog w = .ok (.enter g args) w)
    (hseq : ∀ n, 1 ≤ n → SeqStopsK Fence.wide n Tryz.prog g lb encS KeepsWalks S Sp N w0) :
    Calls Tryz.prog 136 #[.func (.func g) #[] lb, .func (.func 53) #[] #[]] w fun e W' => (∃ v xs, e = .returned v ∧ S xs ∧ W'.ownsRow w.heap.size 49 5 v xs.length (rowS (sortS (raw xs)))) ∧ Below w.heap.size w W' := by
  have H := Lib.hid (collect_any g N lb S Sp hN w0 w hb0 eg hseq)
  have HS := Lib.hid hS
  clear hseq eg hb0 hS
  go_enter Tryz.func136, Tryz.ntmps136
  go_wp2_with fail
  refine (H.out).mono ?_; rintro e w1 ⟨⟨v, xs, rfl, hs, hr⟩, hb⟩
  have hso := sortFunc_any w.heap.size xs.length v (raw xs) w1 hr (by rw [raw_length]; exact HS.out _ hs)
  have hv : ∀ k, v.ownBlock = some k → w.heap.size ≤ k := fun k hk => (hr.lt k hk).1
  have HH := Lib.hid (And.intro hs (And.intro hv hb)); have HSO := Lib.hid hso; clear hs hr hb hso hv H
  dsimp only
  go_wp2_with fail
  refine (HSO.out).mono ?_; rintro e w2 ⟨rfl, hr2, hg⟩
  have H2 := Lib.hid (And.intro hr2 (HH.out.2.2.grown hg HH.out.2.2.size HH.out.2.1)); clear hr2 hg HSO
  dsimp only
  go_wp2_with fail
  go_ret
  exact ⟨⟨v, xs, rfl, HH.out.1, H2.out.1⟩, H2.out.2⟩
def take1 (f : List St) (t : St) : List St := if (f.any fun x => decide (x.L t)) then f else f ++ [t]
def greedy (ds : List St) : List St := ds.foldl take1 []
theorem greedy_snoc (ds : List St) (t : St) : greedy (ds ++ [t]) = take1 (greedy ds) t := by simp [greedy]
structure frGr (ds us : List St) : Prop where
  sub : us.Sublist ds
  all : ∀ x ∈ ds, ∃ y ∈ us, y.L x
  least : ∀ x ∈ us, ∀ y ∈ ds, y.L x → y = x
theorem frGr.step {ds us : List St} {t : St} (h : frGr ds us) (hR : t.R) (hs : ∀ x ∈ ds, x.C t < 0) : frGr (ds ++ [t]) (take1 us t) := by
  have hno : ∀ x ∈ us, ¬ t.L x := fun x hx hl => by
    have h1 := hs x (h.sub.subset hx)
    have h2 := L_C t x hl
    exact h2 h1
  unfold take1
  split
  · rename_i ha
    obtain ⟨u, hu, hl⟩ := List.any_eq_true.1 ha
    have hl : u.L t := by simpa using hl
    refine ⟨h.sub.trans (List.sublist_append_left _ _), fun x hx => ?_, fun x hx y hy hyx => ?_⟩
    · rcases List.mem_append.1 hx with hx | hx
      · exact h.all x hx
      · rw [List.mem_singleton] at hx; subst hx; exact ⟨u, hu, hl⟩
    · rcases List.mem_append.1 hy with hy | hy
      · exact h.least x hx y hy hyx
      · rw [List.mem_singleton] at hy; subst hy; exact absurd hyx (hno x hx)
  · rename_i ha
    have ha : ∀ u ∈ us, ¬ u.L t := fun u hu hl => ha (List.any_eq_true.2 ⟨u, hu, by simpa using hl⟩)
    refine ⟨h.sub.append (List.Sublist.refl _), fun x hx => ?_, fun x hx y hy hyx => ?_⟩
    · rcases List.mem_append.1 hx with hx | hx
      · obtain ⟨y, hy, hl⟩ := h.all x hx
        exact ⟨y, List.mem_append_left _ hy, hl⟩
      · rw [List.mem_singleton] at hx; subst hx; exact ⟨x, List.mem_append_right _ (by simp), St.L_refl.2 hR⟩
    · rcases List.mem_append.1 hx with kx | kx <;> rcases List.mem_append.1 hy with ky | ky
      · exact h.least x kx y ky hyx
      · rw [List.mem_singleton] at ky; rw [ky] at hyx; exact absurd hyx (hno x kx)
      · rw [List.mem_singleton] at kx; rw [kx] at hyx
        obtain ⟨u, hu, hl⟩ := h.all y ky
        exact absurd (St.L_trans hl hyx) (ha u hu)
      · rw [List.mem_singleton] at kx ky; rw [kx, ky]
theorem gr_greedy : ∀ (n : Nat) (ds : List St), ds.length = n → (∀ x ∈ ds, x.R) → ds.Pairwise (fun x y => x.C y < 0) → frGr ds (greedy ds) := by
  intro n
  induction n with
  | zero =>
    intro ds hl _ _
    have := List.eq_nil_of_length_eq_zero hl
    subst this
    exact ⟨List.Sublist.refl _, by simp, by simp [greedy]⟩
  | succ n ih =>
    intro ds hl hR hp
    rcases List.eq_nil_or_concat ds with rfl | ⟨es, t, rfl⟩
    · simp at hl
    · rw [List.concat_eq_append] at *
      rw [List.pairwise_append] at hp
      rw [greedy_snoc]
      exact (ih es (by simpa using hl) (fun x hx => hR x (List.mem_append_left _ hx)) hp.1).step (hR t (by simp)) (fun x hx => hp.2.2 x hx t (by simp))
theorem greedy_len : ∀ (n : Nat) (ds : List St), ds.length = n → (greedy ds).length ≤ n := by
  intro n
  induction n with
  | zero => intro ds hl; have := List.eq_nil_of_length_eq_zero hl; subst this; simp [greedy]
  | succ n ih =>
    intro ds hl
    rcases List.eq_nil_or_concat ds with rfl | ⟨es, t, rfl⟩
    · simp at hl
    · rw [List.concat_eq_append] at *
      rw [greedy_snoc]
      have := ih es (by simpa using hl)
      unfold take1
      split
      · omega
      · simp; omega
theorem key_L {e x : St} (he : e.R) (hx : x.R) (hd : e.d = x.d) (hk : e.key = x.key) (hl : e.e ≤ x.e) : e.L x := by
  obtain ⟨h1, h2, h3⟩ := key_inj.1 hk
  exact ⟨he, hx, hd, hl, Int.le_of_eq h1, Int.le_of_eq h2, Int.le_of_eq h3⟩
theorem first_is {l E : List St} {xs : List RSt} (hl : Even l) (hE : Ear l E) (hx : frAllOf E xs) : greedy (sortS (raw xs)) = ofS l := by
  have hp := sortS_perm (raw xs)
  have hm : ∀ t, t ∈ sortS (raw xs) ↔ t ∈ E := fun t => hp.mem_iff.trans (hx.2 t)
  have hnd : (sortS (raw xs)).Nodup := hp.nodup_iff.2 hx.1
  have hR : ∀ x ∈ sortS (raw xs), x.R := fun x h => (hl x (hE.sub x ((hm x).1 h))).1
  have hs : (sortS (raw xs)).Pairwise fun x y => x.C y < 0 := by
    refine (List.Pairwise.and (sortS_rises (raw xs)) hnd).imp ?_
    rintro x y ⟨h1, h2⟩
    rcases Int.lt_or_eq_of_le h1 with h3 | h3
    · exact h3
    · exact absurd (St.C_zero.1 h3) h2
  have hg := gr_greedy _ (sortS (raw xs)) rfl hR hs
  have hsub : ∀ x ∈ greedy (sortS (raw xs)), x ∈ l := fun x h => hE.sub x ((hm x).1 (hg.sub.subset h))
  have hf : Fr (greedy (sortS (raw xs))) := ⟨fun x h => (hl x (hsub x h)).1, fun x h y k => (hl x (hsub x h)).2 y (hsub y k), hs.sublist hg.sub, fun x h y k hxy => hg.least y k x (hg.sub.subset h) hxy⟩
  refine Fr.ext hf (ofS_fr hl) fun t => ?_
  rw [ofS_up hl]
  constructor
  · rintro ⟨x, h, k⟩; exact ⟨x, hsub x h, k⟩
  · rintro ⟨x, h, k⟩
    obtain ⟨e, he, hk, hle⟩ := hE.all x h
    have hel : e.L x := key_L (hl e (hE.sub e he)).1 (hl x h).1 ((hl e (hE.sub e he)).2 x h) hk hle
    obtain ⟨u, hu, hue⟩ := hg.all e ((hm e).2 he)
    exact ⟨u, hu, St.L_trans (St.L_trans hue hel) k⟩
theorem own_len {w : World} {base n : Nat} {v : Value} {ts : List St} (h : w.ownsRow base 49 5 v n (rowS ts)) : n = ts.length := by
  have := h.1; rw [rowS_len] at this; omega
theorem own_kept {w w' : World} {base n : Nat} {v : Value} {xs : List Value} (h : w.ownsRow base 49 5 v n xs) (hb : Below w.heap.size w w') : w'.ownsRow base 49 5 v n xs := by
  refine h.kept (frGrown_below hb) ?_
  cases hv : v.ownBlock with
  | none => exact .inl rfl
  | some k => exact .inr (by simp)
set_option maxHeartbeats 4000000 in
theorem first_any (g n₀ : Nat) (lb : Array Value) (ts : List RSt) (Sp : List RSt → Prop) (hl : ts.length ≤ 5000000) (hev : Even (raw ts)) (w0 w : World) (hb0 : Below w0.heap.size w0 w) (hn₀ : n₀ ≤ w0.heap.size) (eg : ∀ args w, (callFunc g args).run Tryz.prog w = .ok (.enter g args) w)
    (hseq : ∀ n, 1 ≤ n → SeqStopsK Fence.wide n Tryz.prog g lb encS (Keep n₀) (fun ys => ys = ts) Sp ts.length w0) :
    Calls Tryz.prog 97 #[.func (.func g) #[] lb] w fun e W' => (∃ v, e = .returned v ∧ W'.ownsRow w.heap.size 49 5 v (ofS (raw ts)).length (rowS (ofS (raw ts)))) ∧ Below w.heap.size w W' := by
  have H := Lib.hid (earliest_any g n₀ ts.length lb _ Sp hl w0 w hb0 hn₀ eg (fun xs h => by rw [h]; exact hl) hseq)
  have HEV := Lib.hid hev
  clear hseq eg hb0 hev
  go_enter Tryz.func97, Tryz.ntmps97
  go_wp2_with fail
  refine (H.out).mono ?_; rintro e w1 ⟨rfl, ⟨xs, E, m, rfl, hM, hEar, hEl⟩, hb1⟩
  have hmv := mvalues_any (some w.heap.size) w1
  have HMV := Lib.hid hmv; have HM := Lib.hid (And.intro hM hEar); have HB1 := Lib.hid hb1; clear hmv hM hEar hb1 H
  go_wp2_with fail
  refine (HMV.out).mono ?_; rintro e w2 ⟨rfl, rfl⟩
  have hso := sortedFunc_any 160 E.length #[.pointer (some ⟨w1.heap.size, 0, none⟩)] (frAllOf E) (fun _ => True) hEl
    (fun ys hy => by
      have h1 : (raw ys).Perm E := (List.perm_ext_iff_of_nodup hy.1 (HM.out.1.2.2.imp fun h e => h (by rw [e]))).2 hy.2
      have h2 := h1.length_eq
      rw [raw_length] at h2; omega)
    _ (w1.alloc (.cells #[.map (some w.heap.size)] 192)) (Below.refl _ _) (enters_of Tryz.func160 (by kernel_rfl) rfl)
    (fun n hn => mvaluesC n hn w1.heap.size w.heap.size m E hEl _ (BoxAt.made w1 _ _) (HM.out.1.alloc _))
  have HSO := Lib.hid hso; clear hso HMV
  go_wp2_with fail
  refine (HSO.out).mono ?_; rintro e w3 ⟨⟨v, ys, rfl, hys, hr⟩, hb3⟩
  have hylen : (sortS (raw ys)).length ≤ 5000000 := by
    have h1 : (raw ys).Perm E := (List.perm_ext_iff_of_nodup hys.1 (HM.out.1.2.2.imp fun h e => h (by rw [e]))).2 hys.2
    have h2 := h1.length_eq
    rw [(sortS_perm _).length_eq, h2]; exact hEl
  have hfin := first_is HEV.out HM.out.2 hys
  have hB3 : Below w.heap.size w w3 := (HB1.out.alloc HB1.out.size _).trans (hb3.mono (by have := HB1.out.size; simp; omega))
  obtain ⟨A, c, rfl, hT, hle, _⟩ := Times.of_own hr
  rw [own_len hr] at *
  have hT := Ts.of hT
  generalize sortS (raw ys) = ds at *
  have HFIN := Lib.hid hfin; have HT := Lib.hid hT; have HB3 := Lib.hid hB3; clear hfin hT hB3 hr hb3 HSO hys HM HB1 HEV hle hEl
  dsimp only
  go_wp2_with fail
  go_loopw [3, 11] (fun fv i wr => ∃ k : Nat, k ≤ ds.length ∧ i = .int .i64 k ∧ Below w3.heap.size w3 wr ∧ wr.ownsRow w3.heap.size 49 5 fv (greedy (ds.take k)).length (rowS (greedy (ds.take k)))) (fun _ i _ => ds.length - (intOf i).toNat)
  case atStart => exact ⟨0, Nat.zero_le _, rfl, Below.refl _ _, World.ownsRow_nil _ _ _ _⟩
  case round =>
    obtain ⟨k, hk, rfl, hbw, hro⟩ := hrel
    obtain ⟨B, c', rfl, hTu, hle, hcm⟩ := Times.of_own hro
    have hgl : (greedy (ds.take k)).length ≤ k := greedy_len _ _ (by rw [List.length_take]; omega)
    by_cases hlt : k < ds.length
    · obtain ⟨t, ht⟩ : ∃ t, ds[k]? = some t := ⟨_, List.getElem?_eq_getElem hlt⟩
      have hnext : greedy (ds.take (k + 1)) = take1 (greedy (ds.take k)) t := by rw [List.take_add_one, ht, Option.toList, greedy_snoc]
      generalize greedy (ds.take k) = us at *
      obtain ⟨b, o, rfl, hbl, h5⟩ := HT.out.five ht
      obtain ⟨c0, c1, c2, c3, c4⟩ := h5 wr hbw
      have hrch := reached_any B us c' t _ ((Ts.of hTu).below ((Below.refl wr.heap.size wr).alloc (Nat.le_refl _) (.cells #[.int .i64 t.d, .int .i64 t.e, .int .i64 t.x, .int .i64 t.y, .int .i64 t.z] 49))) (by omega)
      have hbx := Holds.made wr t
      have hsz := hbw.size
      cases hv : (us.any fun x => decide (x.L t)) with
      | true =>
        have e1 : take1 us t = us := by unfold take1; rw [if_pos hv]
        rw [hv] at hrch
        rw [e1] at hnext
        have HR := Lib.hid hrch; have HN := Lib.hid hnext; have HO := Lib.hid (And.intro hbw hro)
        clear hrch hnext hbw hro hTu ht h5 hbl hv e1 hbx
        unfold St.val at *
        go_wp2_with fail
        refine (HR.out).mono ?_; rintro e w4 ⟨rfl, hb4⟩
        have hb5 : Below wr.heap.size wr w4 := ((Below.refl _ _).alloc (Nat.le_refl _) _).trans (hb4.mono (by simp))
        have HB5 := Lib.hid hb5; clear hb4 hb5 c0 c1 c2 c3 c4 HR
        go_wp2_with fail
        go_roundw
        case rel => exact ⟨k + 1, by omega, by simp, HO.out.1.trans (HB5.out.mono hsz), by rw [HN.out]; exact own_kept HO.out.2 HB5.out⟩
        case measure => simp only [intOf]; omega
      | false =>
        have e1 : take1 us t = us ++ [t] := by unfold take1; rw [if_neg (by rw [hv]; simp)]
        rw [hv] at hrch
        rw [e1] at hnext
        have HR := Lib.hid hrch; have HN := Lib.hid hnext; have HO := Lib.hid (And.intro hbw hro); have HX := Lib.hid hbx
        clear hrch hnext hbw hro hTu ht h5 hbl hv e1 hbx
        unfold St.val at *
        go_wp2_with fail
        refine (HR.out).mono ?_; rintro e w4 ⟨rfl, hb4⟩
        have hb5 : Below wr.heap.size wr w4 := ((Below.refl _ _).alloc (Nat.le_refl _) _).trans (hb4.mono (by simp))
        have hx4 := HX.out.below hb4
        have hl4 := hx4.lt
        have hs5 := hb5.size
        have hoA := (own_kept HO.out.2 hb5).alloc (.cells #[.int .i64 t.d, .int .i64 t.e, .int .i64 t.x, .int .i64 t.y, .int .i64 t.z] 49)
        have hTA := Times.made w4 [t]
        have hba : Below w3.heap.size w3 (w4.alloc (.cells #[.int .i64 t.d, .int .i64 t.e, .int .i64 t.x, .int .i64 t.y, .int .i64 t.z] 49)) := (HO.out.1.trans (hb5.mono hsz)).alloc (by omega) _
        have hbs := hba.size
        obtain ⟨d0, d1, d2, d3, d4⟩ := hx4.cells5
        have HBA := Lib.hid hba; clear hb4 hb5 c0 c1 c2 c3 c4 HR hx4 hba
        go_wp2_with (at_builtin; refine wpList_append_times rfl _ _ rfl w3.heap.size _ us.length us rfl hoA ⟨w4.heap.size, 0, none⟩ 1 [t] rfl (by simp) hTA (by simp; omega) hbs ?_; intro v' w5 hown' hgr')
        have hb6 := own_belowS hoA hgr' HBA.out hbs
        have H6 := Lib.hid (And.intro hown' hb6); clear hown' hgr' hoA hTA hb6 d0 d1 d2 d3 d4
        go_wp2_with fail
        go_roundw
        case rel => exact ⟨k + 1, by omega, by simp, H6.out.2, by rw [HN.out]; simpa using H6.out.1⟩
        case measure => simp only [intOf]; omega
    · have hk' : k = ds.length := by omega
      have hfin : greedy (ds.take k) = ofS (raw xs) := by rw [hk', List.take_length]; exact HFIN.out
      rw [hfin] at hro ⊢
      have HO := Lib.hid (And.intro hbw hro); clear hbw hro hTu hfin
      go_wp2_with fail
      go_ret
      refine ⟨⟨_, rfl, ?_⟩, HB3.out.trans (HO.out.1.mono HB3.out.size)⟩
      obtain ⟨h1, h2⟩ := HO.out.2
      refine ⟨h1, ?_⟩
      rcases h2 with h2 | ⟨g', cap, cur, hv, hb', h3⟩
      · exact .inl h2
      · exact .inr ⟨g', cap, cur, hv, Nat.le_trans HB3.out.size hb', h3⟩
end

section
open Go.ChangeShapes Go.WideShapes Go.ChangeAt Go.RowKit Go.BigFrame Go.Shelf
set_option maxRecDepth 100000
theorem grown_refl (w : World) (row : Option Nat) : w.grownBy w row := ⟨rfl, rfl, rfl, Nat.le_refl _, fun _ _ _ => rfl⟩
theorem wpList_append_ts {w : World} {ops : Array Oper} {rest : List Oper} {o : Oper} {a : Act} {Q : Exit → Act → World → Prop} (hgd : o.guard = none) (s x : Operand)
    (ho : o.op = .call { callee := .builtin .append, args := #[s, x], argTypes := #[51, 51] })
    (base : Nat) (v : Value) (n : Nat) (ts : List St) (hs : a.eval s = v) (hown : w.ownsRow base 49 5 v n (rowS ts))
    (A : Option Addr) (c : Nat) (ys : List St) (hx : a.eval x = .slice A ys.length c) (hA0 : A = none → c = 0) (hb : Ts w A ys)
    (hle : n + ys.length ≤ 20000000) (hbase : base ≤ w.heap.size)
    (h : ∀ v' w', w'.ownsRow base 49 5 v' (n + ys.length) (rowS (ts ++ ys)) → w.grownBy w' v.ownBlock → wpList Tryz.prog ops Q rest (a.put o.dst v') w') : wpList Tryz.prog ops Q (o :: rest) a w := by
  obtain ⟨i, hi, hz0, hz1, hz2⟩ := info_parts Tryz.infoStamp
  cases A with
  | none =>
    have hy : ys = [] := by
      cases ys with
      | nil => rfl
      | cons y ys => obtain ⟨b, o, e, _⟩ := hb (by simp); cases e
    subst hy
    rw [hA0 rfl] at hx
    refine wpList_append_own_none hgd s x 51 ho base 49 i 5 Tryz.underlying51 hi v n (rowS ts) hs hown hx ?_
    exact h v w (by rw [List.append_nil]; exact hown) (grown_refl _ _)
  | some ad =>
    refine wpList_append_own w hgd s x 51 ho base 49 i _ 5 40 Tryz.underlying51 hi hz0 hz1 hz2 rfl (by omega) v n (rowS ts) hs hown ad ys.length c (rowS ys) hx (rowS_len ys) ?_ (rowS_one ys) (by unfold maxLen; omega) (by omega) hbase ?_
    · intro j u hj
      have hp : 0 < ys.length := by
        have := (List.getElem?_eq_some_iff.1 hj).1
        rw [rowS_len] at this; omega
      obtain ⟨b, o, e, _, hcell⟩ := hb hp
      cases e
      rw [add_at]; exact hcell j u hj
    · intro v' w' h1 h2 _
      exact h v' w' (by rw [rowS_append]; exact h1) h2
end

section
open Go.ChangeShapes Go.WideShapes Go.ChangeAt Go.RowKit Go.BigFrame Go.Shelf
set_option maxRecDepth 100000
def Gives (w : World) (l : List St) (n : Int) (e : Ending) (w' : World) : Prop :=
  (∃ v, e = .returned (.tuple #[v, .int .i64 n]) ∧ w'.ownsRow w.heap.size 49 5 v l.length (rowS l)) ∧ Below w.heap.size w w'
theorem frOwn_base {w : World} {base base' n : Nat} {v : Value} {xs : List Value} (h : w.ownsRow base 49 5 v n xs) (hb : base' ≤ base) : w.ownsRow base' 49 5 v n xs := by
  obtain ⟨h1, h2⟩ := h
  refine ⟨h1, ?_⟩
  rcases h2 with h2 | ⟨g', cap, cur, hv, hb', h3⟩
  · exact .inl h2
  · exact .inr ⟨g', cap, cur, hv, Nat.le_trans hb hb', h3⟩
def errS (b : Bool) : Int := if b then 0 else 50
def ifS (b : Bool) (l : List St) : List St := if b then l else []
theorem lift_even : ∀ (ts : List St), (∀ x ∈ ts, x.R) → ∃ zs : List RSt, raw zs = ts
  | [], _ => ⟨[], rfl⟩
  | x :: ts, h => by
    obtain ⟨zs, hz⟩ := lift_even ts (fun y hy => h y (List.mem_cons_of_mem _ hy))
    exact ⟨⟨x, h x List.mem_cons_self⟩ :: zs, by simp [raw] at hz ⊢; exact hz⟩
set_option maxHeartbeats 1000000 in
theorem frOf_any (A : Option Addr) (ts : List St) (c : Nat) (w : World) (hT : Ts w A ts) (hn : ts.length ≤ 5000000) :
    Calls Tryz.prog 47 #[.slice A ts.length c] w (Gives w (ifS (decide (Even ts)) (ofS ts)) (errS (decide (Even ts)))) := by
  have ha := alike_any A ts c w hT hn
  by_cases he : Even ts
  · rw [decide_eq_true he] at ha ⊢
    obtain ⟨zs, hz⟩ := lift_even ts (fun x hx => (he x hx).1)
    have hlen : zs.length = ts.length := by rw [← raw_length, hz]
    have hfst : ∀ w1, Below w.heap.size w w1 → Calls Tryz.prog 97 #[.func (.func 139) #[] #[.pointer (some ⟨w1.heap.size, 0, none⟩)]] (w1.alloc (.cells #[.slice A ts.length c] 51)) fun e W' => (∃ v, e = .returned v ∧ W'.ownsRow (w1.alloc (.cells #[.slice A ts.length c] 51)).heap.size 49 5 v (ofS (raw zs)).length (rowS (ofS (raw zs)))) ∧ Below (w1.alloc (.cells #[.slice A ts.length c] 51)).heap.size (w1.alloc (.cells #[.slice A ts.length c] 51)) W' := by
      intro w1 hw1
      refine first_any _ _ _ zs _ (by omega) (by rw [hz]; exact he) _ _ (Below.refl _ _) (Nat.le_refl _) (enters_of Tryz.func139 (by kernel_rfl) rfl)
        (fun n hn => valuesC n hn w1.heap.size A zs (by omega) c _ (by rw [hlen]; exact BoxAt.made w1 _ _) (by rw [hz]; exact (hT.below hw1).below ((Below.refl _ _).alloc (Nat.le_refl _) _)))
    rw [hz] at hfst
    have HA := Lib.hid ha; have HF := Lib.hid hfst; clear ha hfst hT he hz hlen
    unfold Gives ifS errS
    simp only [if_true]
    generalize ofS ts = us at *
    go_enter Tryz.func47, Tryz.ntmps47
    go_wp2_with fail
    refine (HA.out).mono ?_; rintro e w1 ⟨rfl, hb1⟩
    have HB1 := Lib.hid hb1; clear hb1
    go_wp2_with fail
    refine (values_any A ts.length c w1).mono ?_; rintro e w2 ⟨rfl, rfl⟩
    go_wp2_with fail
    refine (HF.out _ HB1.out).mono ?_; rintro e w3 ⟨⟨v, rfl, hr⟩, hb3⟩
    have HH := Lib.hid (And.intro hr hb3); clear hr hb3
    dsimp only
    go_wp2_with fail
    go_ret2
    refine ⟨⟨v, rfl, ?_⟩, HB1.out.trans (((Below.refl _ _).alloc (Nat.le_refl _) _).trans (HH.out.2.mono (by simp)) |>.mono HB1.out.size)⟩
    exact frOwn_base HH.out.1 (by have := HB1.out.size; simp; omega)
  · rw [decide_eq_false he] at ha ⊢
    unfold Gives ifS errS
    simp only [Bool.false_eq_true, if_false]
    have HA := Lib.hid ha; clear ha hT he
    go_enter Tryz.func47, Tryz.ntmps47
    go_wp2_with fail
    refine (HA.out).mono ?_; rintro e w1 ⟨rfl, hb1⟩
    have HB1 := Lib.hid hb1; clear hb1
    go_wp2_with fail
    go_ret2
    exact ⟨⟨_, rfl, World.ownsRow_nil _ _ _ _⟩, HB1.out⟩
end

section
open Go.ChangeShapes Go.WideShapes Go.ChangeAt Go.RowKit Go.BigFrame Go.Shelf
set_option maxRecDepth 100000
end

section
open Go.ChangeShapes Go.WideShapes Go.ChangeAt Go.RowKit Go.BigFrame Go.Shelf
set_option maxRecDepth 100000
section
variable {K : Value → World → Prop} {a : Act} {o : Oper} {w : World}
end
theorem own_slice {w : World} {base n : Nat} {v : Value} {ts : List St} (h : w.ownsRow base 49 5 v n (rowS ts)) : ∃ A c, v = .slice A ts.length c ∧ Ts w A ts ∧ ts.length ≤ c ∧ c ≤ maxLen ∧ (A = none → c = 0) := by
  obtain ⟨A, c, e, h1, h2, h3⟩ := Times.of_own h
  refine ⟨A, c, e, Ts.of h1, h2, h3, fun hA => ?_⟩
  subst hA
  rcases h.2 with ⟨e2, _⟩ | ⟨g, cap, cur, e2, _⟩
  · rw [e] at e2; injection e2
  · rw [e] at e2; injection e2 with h; cases h
end

section
open Go.ChangeShapes Go.WideShapes Go.ChangeAt Go.RowKit Go.BigFrame Go.Shelf
set_option maxRecDepth 100000
end

section
open Go.ChangeShapes Go.WideShapes Go.ChangeAt Go.RowKit Go.BigFrame Go.Shelf
set_option maxRecDepth 100000
structure Slc (w : World) (A : Option Addr) (c : Nat) (l : List St) : Prop where
  ts : Ts w A l
  le : l.length ≤ c
  max : c ≤ maxLen
  nil : A = none → c = 0
theorem Slc.below {w w' : World} {A : Option Addr} {c : Nat} {l : List St} (h : Slc w A c l) (hb : Below w.heap.size w w') : Slc w' A c l := ⟨h.ts.below hb, h.le, h.max, h.nil⟩
theorem Slc.of_own {w : World} {base n : Nat} {v : Value} {ts : List St} (h : w.ownsRow base 49 5 v n (rowS ts)) : ∃ A c, v = .slice A ts.length c ∧ Slc w A c ts := by
  obtain ⟨A, c, e, h1, h2, h3, h4⟩ := own_slice h
  exact ⟨A, c, e, ⟨h1, h2, h3, h4⟩⟩
section
variable {A B : Option Addr} {a b : List St} {c d : Nat} {w : World} {t : St} {v : Bool}
theorem ofS_len (l : List St) : (ofS l).length ≤ l.length := by
  unfold ofS
  have : ∀ (l m : List St), (ofIn l m).length ≤ m.length := by
    intro l m
    induction m with
    | nil => simp [ofIn]
    | cons t m ih =>
      unfold ofIn
      have hins : ∀ (t : St) (r : List St), (insS t r).length = r.length + 1 := by
        intro t r
        induction r with
        | nil => simp [insS]
        | cons y r ih => unfold insS; split <;> simp [ih]
      split
      · rw [hins]; simp; exact ih
      · simp; omega
  exact this l l
end
end
end Go.Proofs.YtcdofkhkckodjaaGreatDoor
