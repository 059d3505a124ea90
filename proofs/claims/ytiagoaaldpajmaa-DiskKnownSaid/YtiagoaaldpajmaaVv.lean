/- Several texts in one: Rename1. -/
import Derived.Test.YtiagoaaldpajmaaVu
namespace Go.Proofs.Ytiagoaaldpajmaa
open Go.ChangeShapes Go.WideShapes Go.ChangeAt Go.RowKit Go.BigFrame Go.Maps Go.Sort
set_option linter.unusedVariables false
/-- what a Rename makes of the files -/
def renameF (a b : Nm) (fs : Fs) : Fs := match getF a fs with
  | some x => putF b (cutF x x.b.length) (delF b (delF a fs))
  | none => fs
theorem renameF_eq {a b : Nm} {fs : Fs} {x : Fil} (h : getF a fs = some x) : renameF a b fs = putF b (cutF x x.b.length) (delF a fs) := by
  unfold renameF; rw [h]
  show putF b _ (delF b (delF a fs)) = _
  exact put_put
/-- one operation does something, the others read -/
def StepR (a b : World) (b1 : Bool) (w : World) : Prop := match b1 with | false => w = a | true => w = b
section
variable {w w' : World} {F : Nat → Prop} {fs : Fs} {g : Nm → Nat} {v : Nm → Value} {n : Nm} {x y : Fil} {p r u dd f : Nat} {m : Option Nat} {o : Bool} {d : DM}
/-- a file under another name -/
theorem FilesAt.moved {a b : Nm} (h : FilesAt w F fs g v) (hg : getF a fs = some x) : FilesAt w F (putF b x (delF a fs)) (upd g b (g a)) (updv v b (v a)) := by
  have old : ∀ k z, getF k (putF b x (delF a fs)) = some z → k ≠ b → k ≠ a ∧ getF k fs = some z := fun k z hz hk => by
    rw [getF_put_ne hk] at hz
    by_cases hka : k = a
    · subst hka; rw [getF_del_same] at hz; cases hz
    · exact ⟨hka, by rwa [getF_del_ne hka] at hz⟩
  have hvb : updv v b (v a) b = v a := by simp [updv]
  have hvk : ∀ k, k ≠ b → updv v b (v a) k = v k := fun k hk => by simp [updv, hk]
  have hgb : upd g b (g a) b = g a := by simp [upd]
  have hgk : ∀ k, k ≠ b → upd g b (g a) k = g k := fun k hk => by simp [upd, hk]
  refine ⟨?_, ?_, ?_, ?_, ?_⟩
  · intro k z hz
    by_cases hk : k = b
    · subst hk; rw [getF_put_same] at hz; cases hz; rw [hvb, hgb]; exact h.at_ _ _ hg
    · rw [hvk k hk, hgk k hk]; exact h.at_ k z (old k z hz hk).2
  · intro k z hz
    by_cases hk : k = b
    · subst hk; rw [hgb]; exact h.mem _ _ hg
    · rw [hgk k hk]; exact h.mem _ _ (old k z hz hk).2
  · intro k z hz i hi
    by_cases hk : k = b
    · subst hk; rw [hvb] at hi; exact h.memv _ _ hg i hi
    · rw [hvk k hk] at hi; exact h.memv _ _ (old k z hz hk).2 i hi
  · intro k l z z' hz hz' hkl
    by_cases hk : k = b
    · subst hk
      have hl : l ≠ k := Ne.symm hkl
      rw [hgb, hgk l hl]
      exact h.apart _ _ _ _ hg (old l z' hz' hl).2 (Ne.symm (old l z' hz' hl).1)
    · rw [hgk k hk]
      by_cases hl : l = b
      · subst hl; rw [hgb]; exact h.apart _ _ _ _ (old k z hz hk).2 hg (old k z hz hk).1
      · rw [hgk l hl]; exact h.apart _ _ _ _ (old k z hz hk).2 (old l z' hz' hl).2 hkl
  · intro k l z z' hz hz' hkl i hi
    by_cases hk : k = b
    · subst hk
      have hl : l ≠ k := Ne.symm hkl
      rw [hvb] at hi; rw [hvk l hl]
      exact h.apartv _ _ _ _ hg (old l z' hz' hl).2 (Ne.symm (old l z' hz' hl).1) i hi
    · rw [hvk k hk] at hi
      by_cases hl : l = b
      · subst hl; rw [hvb]; exact h.apartv _ _ _ _ (old k z hz hk).2 hg (old k z hz hk).1 i hi
      · rw [hvk l hl]; exact h.apartv _ _ _ _ (old k z hz hk).2 (old l z' hz' hl).2 hkl i hi
theorem load_ptr {w : World} {k : Nat} {a : Option Addr} (h : w.cell? ⟨k, 0, none⟩ = some (.pointer a)) : (Instr.loadAt TP (.pointer (some ⟨k, 0, none⟩))).run Try.prog w = .ok (.pointer a) w := by
  go_simp
theorem load_fptr {w : World} {k : Nat} {a : Option Addr} (h : w.cell? ⟨k, 0, none⟩ = some (.pointer a)) : (Instr.loadAt TPF (.pointer (some ⟨k, 0, none⟩))).run Try.prog w = .ok (.pointer a) w := by
  go_simp
theorem load_str {w : World} {k : Nat} {s : ByteArray} (h : w.cell? ⟨k, 0, none⟩ = some (.string s)) : (Instr.loadAt TS (.pointer (some ⟨k, 0, none⟩))).run Try.prog w = .ok (.string s) w := by
  go_simp
/-- delete alone -/
theorem map_del {b : Nat} (hM : MapAt w (some b) fs g) (s : ByteArray) (hs : s.size ≤ 9223372036854775807) (ty : TypeId) :
    ∃ w', (Builtin.delete_ #[TM, 9] ty #[.map (some b), .string s]).run Try.prog w = .ok (.tuple #[]) w' ∧ MapAt w' (some b) (delF s.data.toList fs) g ∧ Touch (fun k => some k = some b) w w' := by
  have hown : w.ownsMap Try.prog 9 refPtr b fs.length (dat fs g) := hM
  obtain ⟨w', h1, h2, h3⟩ := hown.drop str_law und_map (key_of (s := s) (by unfold maxLen; omega)) ty
  rw [dat_del] at h2
  exact ⟨w', h1, MapAt.own h2, Touch.of_grown h3.grown (fun k hk => hk.symm)⟩
theorem stage_delete {P : Program} {C : World → Prop} {o : Oper} {a : Act} {w w' : World} (m x : Operand) (t k : TypeId) (hop : o.op = Op.call { callee := Callee.builtin Builtin.delete, args := #[m, x], argTypes := #[t, k] })
    (mv key : Value) (hm : a.eval m = mv) (hx : a.eval x = key) (hr : (Builtin.delete_ #[t, k] o.type #[mv, key]).run P w = .ok (.tuple #[]) w') (hC : C w') : Stage.at_ P o a C w (.tuple #[]) := by
  unfold Stage.at_ execOp
  simp only [hop, resolve, invoke, builtin, Sem.run_bind, Sem.run_pure, Result.andThen_ok, List.map_toArray, List.map_cons, List.map_nil, hm, hx, hr, Stage.upon]
  exact ⟨trivial, hC⟩
theorem usedF_moved {a b : Nm} (hS : SortF fs) (hg : getF a fs = some x) : usedF (putF b x (delF a fs)) = usedF fs - lenF b (delF a fs) := by
  have h1 := usedF_put (n := b) (f := x) (hS.del (n := a))
  have h2 := usedF_del (n := a) hS
  have h3 := lenF_le (n := b) (hS.del (n := a))
  rw [lenF_some hg] at h2
  omega
/-- what a Rename's deed leaves -/
def Renamed (F : Nat → Prop) (p r dd f : Nat) (o : Bool) (m : Option Nat) (fs : Fs) (w w' : World) : Prop := ∃ g' v', Row w' p TD (dcells r (usedF fs) m dd o f) ∧ Held w' (Ext F w w') p m fs g' v' ∧ Touch F w w'
set_option maxRecDepth 100000 in
set_option maxHeartbeats 4000000 in
theorem rename1_any (h : Row w p TD (dcells r (usedF fs) m dd o f)) (hH : Held w F p m fs g v) (kd ka kb kf : Nat) (a b : ByteArray) (bd : Row w kd TP [.pointer (some ⟨p, 0, none⟩)]) (ba : Row w ka TS [.string a]) (bb : Row w kb TS [.string b]) (bf : Row w kf TPF [.pointer (some ⟨g a.data.toList, 0, none⟩)])
    (hF : ¬ F kd ∧ ¬ F ka ∧ ¬ F kb ∧ ¬ F kf) (ha : a.size ≤ 128) (hb : 1 ≤ b.size ∧ b.size ≤ 128) (hg : getF a.data.toList fs = some x) (hu : usedF fs ≤ 9223372036854775807) (hl : fs.length ≤ 1000000000) :
    Calls Try.prog 59 #[.pointer (some ⟨kd, 0, none⟩), .pointer (some ⟨ka, 0, none⟩), .pointer (some ⟨kb, 0, none⟩), .pointer (some ⟨kf, 0, none⟩)] w fun e w' => e = .returned (.tuple #[]) ∧ Renamed F p r dd f o m (renameF a.data.toList b.data.toList fs) w w' := by
  have hmb : ∃ mb, m = some mb := by
    cases m with
    | none => rw [show fs = [] from hH.map] at hg; simp [getF] at hg
    | some mb => exact ⟨mb, rfl⟩
  obtain ⟨mb, rfl⟩ := hmb
  obtain ⟨hFd, hFa, hFb, hFf⟩ := hF
  have hx := hH.files.at_ _ _ hg
  obtain ⟨h0, h1, h2, h3, h4, h5⟩ := drow h
  have c1 : w.cell? ⟨kd, 0, none⟩ = some (.pointer (some ⟨p, 0, none⟩)) := bd.cell 0
  have c2 : w.cell? ⟨ka, 0, none⟩ = some (.string a) := ba.cell 0
  obtain ⟨w1, hdel, hM1, ht1⟩ := map_del (w := w.drew) (b := mb) (hH.map.touch (Touch.refl (fun _ => False) w).drew (by simp)) a (by omega) 0
  have HH := Lib.hid hH; have HR := Lib.hid h; have HG := Lib.hid hg; have Hd := Lib.hid bd; have Ha := Lib.hid ba; have Hb := Lib.hid bb; have Hf := Lib.hid bf; have Hdel := Lib.hid hdel; have HM1 := Lib.hid hM1; have HT1 := Lib.hid ht1; have HX := Lib.hid hx
  clear hH h hg bd ba bb bf hdel hM1 ht1 hx
  go_enter Try.func59, Try.ntmps59
  go_wp2_with fail
  refine Stage.wp_region (by kernel_rfl) (by kernel_rfl) (Stage.one 5 (StepR w.drew w1)) (Stage.one_start (by simp) (show StepR _ _ false w.drew from rfl)) ?_
  refine Stage.wpSt_reads 5 (fun w' => w' = w.drew) (by kernel_rfl) (Stage.one_before (by kernel_rfl)) ?_
  simp only [List.take_succ_cons, List.take_zero, List.drop_succ_cons, List.drop_zero]
  repeat (go_big_quiet_step (fail))
  refine wpQuiet_nil ?_
  refine Stage.wpSt_do (.tuple #[]) rfl (Stage.one_do ?_) ?_
  · intro w' hw
    have hw' : w' = w.drew := hw
    subst hw'
    exact stage_delete _ _ TM 9 rfl _ _ rfl rfl Hdel.out rfl
  go_simp
  refine Stage.wpSt_nil (Stage.one_end ?_)
  intro w2 hw2
  have e2 : w2 = w1 := hw2
  subst e2
  have hT1 : Touch (fun k => some k = some mb) w w2 := (Touch.refl _ w).drew.trans HT1.out
  have hrow : ∀ {k : Nat} {t : TypeId} {l : List Value}, Row w k t l → Row w2 k t l := fun {k t l} hr => hr.touch hT1 (fun e => HH.out.map.ne_row hr (Option.some.inj e).symm)
  have hpm : ∀ k z, getF k fs = some z → ¬ (fun i => some i = some mb) (g k) ∧ ∀ i, (v k).ownBlock = some i → ¬ (fun i => some i = some mb) i := by
    intro k z hz
    refine ⟨fun e => ?_, fun i hi e => ?_⟩
    · exact HH.out.map.ne_row (HH.out.files.at_ k z hz).row (Option.some.inj e).symm
    · exact HH.out.map.ne_own (HH.out.files.at_ k z hz).own hi (Option.some.inj e).symm
  have hfs2 : FilesAt w2 F fs g v := HH.out.files.stay hT1 hpm
  have hR2 := hrow HR.out
  have q1 : w2.cell? ⟨kd, 0, none⟩ = some (.pointer (some ⟨p, 0, none⟩)) := (hrow Hd.out).cell 0
  have q3 : w2.cell? ⟨kb, 0, none⟩ = some (.string b) := (hrow Hb.out).cell 0
  obtain ⟨na, hna⟩ : ∃ na, na = a.data.toList := ⟨_, rfl⟩
  obtain ⟨nb, hnb⟩ : ∃ nb, nb = b.data.toList := ⟨_, rfl⟩
  have hm1 := HM1.out
  have hgg := HG.out
  rw [← hna] at hm1 hgg
  have hle1 : lenF nb (delF na fs) ≤ usedF fs := by
    have h1 := lenF_le (n := nb) (HH.out.ok.drop (n := na)).sort
    have h2 := usedF_del (n := na) HH.out.ok.sort
    omega
  have hdr := drop_any hR2 hm1 (hfs2.less (n := na)) (HH.out.ok.drop (n := na)).sort b (by omega) (by rw [← hnb]; exact hle1) hu
  have HDr := Lib.hid hdr; have HT2 := Lib.hid hT1; have Hfs2 := Lib.hid hfs2; have Hm1 := Lib.hid hm1; have Hgg := Lib.hid hgg; have Hna := Lib.hid hna; have Hnb := Lib.hid hnb; have HR2 := Lib.hid hR2; have Hle1 := Lib.hid hle1
  have Hd2 := Lib.hid (hrow Hd.out); have Hb2 := Lib.hid (hrow Hb.out); have Hf2 := Lib.hid (hrow Hf.out)
  clear hdr hT1 hfs2 hm1 hgg hna hnb hR2 hle1 hrow hpm hw2 c1 c2 h0 h1 h2 h3 h4 h5
  go_wp2_with fail
  refine (HDr.out).mono ?_; rintro e w3 ⟨rfl, hr3, hm3, ht3⟩
  have hcd : ∀ {k : Nat} {t : TypeId} {l : List Value}, Row w2 k t l → t ≠ TD → Row w3 k t l := fun {k t l} hr ht => hr.touch ht3 (by
    rintro (e | e)
    · exact (hr.apart HR2.out ht) e
    · exact Hm1.out.ne_row hr (Option.some.inj e))
  have hfs3 : FilesAt w3 F fs g v := Hfs2.out.stay ht3 (by
    intro k z hz
    have hk := Hfs2.out.at_ k z hz
    refine ⟨?_, fun i hi => ?_⟩
    · rintro (e | e)
      · exact (hk.row.apart HR2.out (by decide)) e
      · exact Hm1.out.ne_row hk.row (Option.some.inj e)
    · rintro (e | e)
      · exact own_ne hk.own hi (e ▸ HR2.out) (by decide)
      · exact Hm1.out.ne_own hk.own hi (Option.some.inj e))
  have hd3 := hcd Hd2.out (by decide)
  have hb3 := hcd Hb2.out (by decide)
  have hf3 := hcd Hf2.out (by decide)
  have hT3 : Touch F w w3 := (HT2.out.mono (by rintro i e; exact HH.out.memm i (Option.some.inj e ▸ rfl))).trans (ht3.mono (by
    rintro i (e | e)
    · exact e ▸ HH.out.memp
    · exact HH.out.memm i e))
  rw [Hna.out] at hr3 hm3
  have hlt3 : p < w3.heap.size := hr3.lt
  have l1 : ∀ w' : World, Grew w3 w' → w'.cell? ⟨kd, 0, none⟩ = some (.pointer (some ⟨p, 0, none⟩)) := fun w' hw => (Below.cell hw (p := ⟨kd, 0, none⟩) hd3.lt).trans (hd3.cell 0)
  have l2 : ∀ w' : World, Grew w3 w' → w'.cell? ⟨p, 2, none⟩ = some (.map (some mb)) := fun w' hw => (Below.cell hw (p := ⟨p, 2, none⟩) hlt3).trans (drow hr3).2.2.1
  have l3 : ∀ w' : World, Grew w3 w' → w'.cell? ⟨kb, 0, none⟩ = some (.string b) := fun w' hw => (Below.cell hw (p := ⟨kb, 0, none⟩) hb3.lt).trans (hb3.cell 0)
  have l4 : ∀ w' : World, Grew w3 w' → w'.cell? ⟨kf, 0, none⟩ = some (.pointer (some ⟨g a.data.toList, 0, none⟩)) := fun w' hw => (Below.cell hw (p := ⟨kf, 0, none⟩) hf3.lt).trans (hf3.cell 0)
  have L1 := Lib.hid l1; have L2 := Lib.hid l2; have L3 := Lib.hid l3; have L4 := Lib.hid l4
  have HT3 := Lib.hid hT3; have Hr3 := Lib.hid hr3; have Hm3 := Lib.hid hm3; have Hfs3 := Lib.hid hfs3; have Hd3 := Lib.hid hd3; have Hf3 := Lib.hid hf3
  clear hT3 hr3 hm3 hfs3 hd3 hb3 hf3 hcd l1 l2 l3 l4 ht3 q1 q3
  go_wp2_with fail
  refine Stage.wp_region (by kernel_rfl) (by kernel_rfl) (Stage.one 7 (Put w3 mb ((delF b.data.toList (delF a.data.toList fs)).length + 1) ((dat (delF b.data.toList (delF a.data.toList fs)) g).put (.string b.data.toList) (.lit (.int .i64 (g a.data.toList : Nat)))))) (Stage.one_start (by simp) (show Grew w3 w3.drew from (Below.refl _ _).drew)) ?_
  refine Stage.wpSt_do (.pointer (some ⟨p, 0, none⟩)) rfl (Stage.one_step (by kernel_rfl) (fun w' hw => Free.at_load _ _ rfl rfl (load_ptr (L1.out w' hw)) hw)) ?_
  go_simp
  refine Stage.wpSt_reads 2 (fun _ => True) (by kernel_rfl) (Stage.one_any (by simp)) ?_
  simp only [List.take_succ_cons, List.take_zero, List.drop_succ_cons, List.drop_zero]
  repeat (go_big_quiet_step (fail))
  refine wpQuiet_nil ?_
  refine Stage.wpSt_do (.map (some mb)) rfl (Stage.one_step (by kernel_rfl) (fun w' hw => Free.at_load _ _ rfl rfl (load_map (L2.out w' hw)) hw)) ?_
  go_simp
  refine Stage.wpSt_do (.string b) rfl (Stage.one_step (by kernel_rfl) (fun w' hw => Free.at_load _ _ rfl rfl (load_str (L3.out w' hw)) hw)) ?_
  go_simp
  refine Stage.wpSt_do (.string b) rfl (Stage.one_step (by kernel_rfl) ?_) ?_
  · intro w' hw
    refine Free.at_call _ _ rfl Try.func60 (by kernel_rfl) rfl [.string b] rfl ?_
    refine (clone_str b w' (by omega)).mono ?_
    rintro e w'' ⟨he, hb⟩
    exact ⟨he, Below.trans hw (hb.mono (Below.size hw))⟩
  go_simp
  refine Stage.wpSt_do (.pointer (some ⟨g a.data.toList, 0, none⟩)) rfl (Stage.one_step (by kernel_rfl) (fun w' hw => Free.at_load _ _ rfl rfl (load_fptr (L4.out w' hw)) hw)) ?_
  go_simp
  refine Stage.wpSt_do undef rfl (Stage.one_do ?_) ?_
  · intro w' hw
    have hown : w'.ownsMap Try.prog 9 refPtr mb (delF b.data.toList (delF a.data.toList fs)).length (dat (delF b.data.toList (delF a.data.toList fs)) g) := ownsMap_touch Hm3.out (Touch.of_below (F := fun _ => False) hw) (by simp)
    have hl2 : (delF b.data.toList (delF a.data.toList fs)).length ≤ fs.length := Nat.le_trans delF_len delF_len
    refine stage_mapUpdate _ _ _ TM rfl _ _ str_law und_map refPtr mb _ _ rfl hown (by unfold maxLen; omega) (.string b) (.pointer (some ⟨g a.data.toList, 0, none⟩)) _ rfl rfl (key_of (by unfold maxLen; omega)) (.lit (.int .i64 (g a.data.toList : Nat))) [] rfl ?_
    intro w'' h1 h2
    exact ⟨w', hw, h1, h2⟩
  go_simp
  refine Stage.wpSt_nil (Stage.one_end ?_)
  rintro w4 ⟨w1', hw1, hown4, hgr4⟩
  have hbel : Below w3.heap.size w3 w1' := hw1
  have ht4 : Touch (fun k => some k = some mb) w3 w4 := (Touch.of_below hbel).trans (Touch.of_grown hgr4 (fun k hk => hk.symm))
  rw [dat_put (f := x)] at hown4
  have hm4 : MapAt w4 (some mb) (putF b.data.toList x (delF b.data.toList (delF a.data.toList fs))) (upd g b.data.toList (g a.data.toList)) := MapAt.own hown4
  rw [put_put] at hm4
  have hfs4 := (Hfs3.out.stay ht4 (by
    intro k z hz
    have hk := Hfs3.out.at_ k z hz
    exact ⟨fun e => Hm3.out.ne_row hk.row (Option.some.inj e).symm, fun i hi e => Hm3.out.ne_own hk.own hi (Option.some.inj e).symm⟩)).moved (b := b.data.toList) HG.out
  have hr4 : Row w4 p TD (dcells r (usedF (putF b.data.toList x (delF a.data.toList fs))) (some mb) dd o f) := by
    rw [usedF_moved HH.out.ok.sort HG.out]
    exact Hr3.out.touch ht4 (fun e => Hm3.out.ne_row Hr3.out (Option.some.inj e).symm)
  have hd4 := Hd3.out.touch ht4 (fun e => Hm3.out.ne_row Hd3.out (Option.some.inj e).symm)
  have hf4 := Hf3.out.touch ht4 (fun e => Hm3.out.ne_row Hf3.out (Option.some.inj e).symm)
  have hok4 : OkFs (putF b.data.toList x (delF a.data.toList fs)) := (HH.out.ok.drop).add (by rw [Array.length_toList]; exact hb) (HH.out.ok.sure _ _ HG.out) (HH.out.ok.len _ _ HG.out)
  have hH4 : Held w4 F p (some mb) (putF b.data.toList x (delF a.data.toList fs)) (upd g b.data.toList (g a.data.toList)) (updv v b.data.toList (v a.data.toList)) := ⟨hm4, hfs4, hok4, HH.out.memp, HH.out.memm⟩
  have hT4 : Touch F w w4 := HT3.out.trans (ht4.mono (by rintro i e; exact HH.out.memm i (Option.some.inj e ▸ rfl)))
  have hu4 : usedF (putF b.data.toList x (delF a.data.toList fs)) ≤ 9223372036854775807 := by rw [usedF_moved HH.out.ok.sort HG.out]; omega
  have hgb4 : getF b.data.toList (putF b.data.toList x (delF a.data.toList fs)) = some x := getF_put_same
  have hxu : x.b.length ≤ usedF (putF b.data.toList x (delF a.data.toList fs)) := by have := lenF_le (n := b.data.toList) hok4.sort; rw [lenF_some hgb4] at this; exact this
  have hset := settle_held (w := w4.drew) hr4.drew (hH4.touch (Touch.refl (fun _ => False) w4).drew (by simp)) hgb4 x.b.length (Nat.le_refl _) hxu hu4
  rw [show upd g b.data.toList (g a.data.toList) b.data.toList = g a.data.toList by simp [upd]] at hset
  have hx4 := hH4.files.at_ _ _ hgb4
  rw [show upd g b.data.toList (g a.data.toList) b.data.toList = g a.data.toList by simp [upd]] at hx4
  obtain ⟨k0, k1, k2⟩ := frow hx4
  obtain ⟨AV, cV, hv, hcV, hcmV⟩ := fslice hx4
  rw [hv] at k0
  have q1 : w4.cell? ⟨kd, 0, none⟩ = some (.pointer (some ⟨p, 0, none⟩)) := hd4.cell 0
  have q2 : w4.cell? ⟨kf, 0, none⟩ = some (.pointer (some ⟨g a.data.toList, 0, none⟩)) := hf4.cell 0
  have HS := Lib.hid hset; have HT4 := Lib.hid hT4
  have heq : putF b.data.toList (cutF x x.b.length) (putF b.data.toList x (delF a.data.toList fs)) = renameF a.data.toList b.data.toList fs := by rw [put_twice, renameF_eq HG.out]
  have hueq : usedF (putF b.data.toList x (delF a.data.toList fs)) - (x.b.length - x.b.length) = usedF (renameF a.data.toList b.data.toList fs) := by rw [← heq, usedF_cut hok4.sort hgb4 (Nat.le_refl _)]
  have HEq := Lib.hid heq; have HUEq := Lib.hid hueq
  clear hset hT4 hv hx4 hH4 hm4 hfs4 hr4 hd4 hf4 hok4 hu4 hgb4 hxu ht4 hbel hown4 hgr4 hw1 heq hueq hlt3
  go_wp2_with fail
  refine Stage.wp_region (by kernel_rfl) (by kernel_rfl) (Stage.one 7 (Settled w4 (Renamed F p r dd f o (some mb) (renameF a.data.toList b.data.toList fs) w))) (Stage.one_start (by simp) (show Settled w4 _ false w4.drew from rfl)) ?_
  refine Stage.wpSt_reads 7 (fun w' => w' = w4.drew) (by kernel_rfl) (Stage.one_before (by kernel_rfl)) ?_
  simp only [List.take_succ_cons, List.take_zero, List.drop_succ_cons, List.drop_zero]
  repeat (go_big_quiet_step (fail))
  refine wpQuiet_nil ?_
  refine Stage.wpSt_do (.tuple #[]) rfl (Stage.one_do ?_) ?_
  · intro w' hw
    have hw' : w' = w4.drew := hw
    subst hw'
    refine Free.at_call _ _ rfl Try.func53 (by kernel_rfl) rfl [.pointer (some ⟨p, 0, none⟩), .pointer (some ⟨g a.data.toList, 0, none⟩), .int .i64 (x.b.length : Nat)] rfl ?_
    refine (HS.out).mono ?_
    rintro e w'' ⟨rfl, v', h1, h2, h3⟩
    rw [HEq.out] at h2
    rw [HUEq.out] at h1
    have h4 : Touch F w4 w'' := (Touch.refl F w4).drew.trans h3
    exact ⟨rfl, _, v', h1, h2.mono (fun k hk => Ext.from HT4.out.size k hk), HT4.out.trans h4⟩
  go_simp
  refine Stage.wpSt_nil (Stage.one_end ?_)
  intro w5 hw5
  have hw6 : Renamed F p r dd f o (some mb) (renameF a.data.toList b.data.toList fs) w w5 := hw5
  have H5 := Lib.hid hw6; clear hw5 hw6
  go_wp2_with fail
  go_end0
  exact ⟨rfl, H5.out⟩
end
end Go.Proofs.Ytiagoaaldpajmaa
