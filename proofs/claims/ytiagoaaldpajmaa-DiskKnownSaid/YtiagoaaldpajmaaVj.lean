/- Several texts in one: Append1, Boxes, Append2. -/
import Derived.Test.YtiagoaaldpajmaaVi
namespace Go.Proofs.Ytiagoaaldpajmaa
open Go.ChangeShapes Go.WideShapes Go.ChangeAt Go.RowKit Go.BigFrame Go.Maps Go.Sort
set_option linter.unusedVariables false
abbrev TP : TypeId := 26
abbrev TS : TypeId := 9
abbrev TB : TypeId := 36
theorem infoU8 : (Try.prog.info? 5).map (fun i => (i.zero, i.size, i.bytes)) = some (some (.int .u8 0), 1, 1) := by kernel_rfl
theorem bytes_cells {w : World} {A : Addr} {bs : List Nat} (h : Bytes w (some A) bs) : ∀ j u, (u8s bs)[j]? = some u → w.cell? (A.add j) = some u := by
  intro j u hj
  have hlt := (List.getElem?_eq_some_iff.1 hj).1
  obtain ⟨ad, e, _, hc⟩ := h.2 (by simp at hlt; omega)
  injection e with e; subst e
  rw [List.getElem?_map] at hj
  cases hx : bs[j]? with
  | none => simp [hx] at hj
  | some x => simp [hx] at hj; rw [← hj]; exact hc j x hx

/-- what an Append's deed leaves -/
def Appended (F : Nat → Prop) (p r u dd f : Nat) (o : Bool) (fs : Fs) (n : Nm) (bs : List Nat) (w w' : World) : Prop :=
  ∃ m' g' v' x, getF n (openF n fs) = some x ∧ Row w' p TD (dcells r (u + bs.length) m' dd o f) ∧ Held w' (Ext F w w') p m' (putF n (appF x bs) (openF n fs)) g' v' ∧ Touch F w w'
section
variable {w : World} {F : Nat → Prop} {fs : Fs} {g : Nm → Nat} {v : Nm → Value} {p r u dd f : Nat} {m : Option Nat} {o : Bool}
set_option maxRecDepth 100000 in
set_option maxHeartbeats 2000000 in
theorem append1_any (h : Row w p TD (dcells r u m dd o f)) (hH : Held w F p m fs g v) (kd ks kb : Nat) (s : ByteArray) (A : Addr) (bs : List Nat) (c : Nat)
    (bd : Row w kd TP [.pointer (some ⟨p, 0, none⟩)]) (bS : Row w ks TS [.string s]) (bb : Row w kb TB [.slice (some A) bs.length c]) (hB : Bytes w (some A) bs)
    (hF : ¬ F kd ∧ ¬ F ks ∧ ¬ F kb ∧ (0 < bs.length → ¬ F A.block)) (hs : 1 ≤ s.size ∧ s.size ≤ 128) (hl : fs.length ≤ 1000000000) (hlen : lenF s.data.toList fs + bs.length ≤ 8388608) (hu : u + bs.length ≤ 9223372036854775807) :
    Calls Try.prog 37 #[.pointer (some ⟨kd, 0, none⟩), .pointer (some ⟨ks, 0, none⟩), .pointer (some ⟨kb, 0, none⟩)] w fun e w' => e = .returned (.tuple #[]) ∧ Appended F p r u dd f o fs s.data.toList bs w w' := by
  obtain ⟨hFd, hFs, hFb, hFA⟩ := hF
  have hop := opened_any h hH s hs hl
  have c1 : w.cell? ⟨kd, 0, none⟩ = some (.pointer (some ⟨p, 0, none⟩)) := bd.cell 0
  have c2 : w.cell? ⟨ks, 0, none⟩ = some (.string s) := bS.cell 0
  have c3 : w.cell? ⟨kb, 0, none⟩ = some (.slice (some A) bs.length c) := bb.cell 0
  have HO := Lib.hid hop; have HH := Lib.hid hH; have Hd := Lib.hid bd; have Hb := Lib.hid bb; have HB := Lib.hid hB; have HR := Lib.hid h; have HA := Lib.hid hFA
  clear hop hH bd bS bb hB h hFA
  obtain ⟨n, hn⟩ : ∃ n, n = s.data.toList := ⟨_, rfl⟩
  rw [← hn] at HO hlen ⊢
  have HN := Lib.hid hn; clear hn
  go_enter Try.func37, Try.ntmps37
  go_wp2_with fail
  refine (HO.out).mono ?_; rintro e W ⟨m', g', v', x, rfl, hx, hR, hHW, ht⟩
  have hlx : x.b.length + bs.length ≤ 8388608 := by
    unfold openF at hx
    split at hx
    · rename_i y hy
      rw [hy] at hx; cases hx
      unfold lenF at hlen; rw [hy] at hlen; exact hlen
    · rename_i hy
      rw [getF_put_same] at hx; cases hx
      unfold lenF at hlen; rw [hy] at hlen; simp [newF]; omega
  have hfa := hHW.files.at_ _ _ hx
  have hdW := Hd.out.touch ht hFd
  have hbW := Hb.out.touch ht hFb
  have hBW : Bytes W (some A) bs := ⟨HB.out.1, fun h0 => by
    obtain ⟨ad, e, hlt, hc⟩ := HB.out.2 h0
    injection e with e; subst e
    refine ⟨A, rfl, Nat.lt_of_lt_of_le hlt ht.size, fun j y hy => ?_⟩
    rw [← hc j y hy]
    have := add_block A j
    exact World.cell?_of_block (by rw [this]; exact ht.block _ hlt (HA.out h0))⟩
  obtain ⟨i0, hi, hz0, hz1, hz2⟩ := info_parts infoU8
  obtain ⟨v6, w6, hrun, hown6, hgr6, hblk⟩ := run_append_mine (P := Try.prog) W.drew TB TB 5 i0 (.int .u8 0) (by kernel_rfl) hi hz0 hz1 hz2 rfl (v' n) x.b.length (u8s x.b) hfa.own.drew A bs.length c (u8s bs) (by simp) (fun j u hj => bytes_cells hBW j u hj) (by
    intro y hy; obtain ⟨q, _, rfl⟩ := List.mem_map.1 hy; rfl) (by omega)
  obtain ⟨A6, c6, hv6⟩ : ∃ A6 c6, v6 = .slice A6 (x.b.length + bs.length) c6 := by
    obtain ⟨_, ⟨e1, e2⟩ | ⟨g9, cap9, cur9, e1, _⟩⟩ := id hown6
    · exact ⟨none, 0, by rw [e1, e2]⟩
    · exact ⟨_, _, e1⟩
  subst hv6
  obtain ⟨k0, k1, k2⟩ := frow hfa
  obtain ⟨gb, hgb⟩ : ∃ gb, gb = g' n := ⟨_, rfl⟩
  obtain ⟨vb, hvb⟩ : ∃ vb, vb = v' n := ⟨_, rfl⟩
  rw [← hgb] at k0 k1 k2 ⊢
  rw [← hvb] at k0 hrun
  have q1 : W.cell? ⟨kd, 0, none⟩ = some (.pointer (some ⟨p, 0, none⟩)) := hdW.cell 0
  have q3 : W.cell? ⟨kb, 0, none⟩ = some (.slice (some A) bs.length c) := hbW.cell 0
  have HfA := Lib.hid hfa; have HHW := Lib.hid hHW; have HT := Lib.hid ht; have HX := Lib.hid hx; have HdW := Lib.hid hdW; have HbW := Lib.hid hbW; have HRW := Lib.hid hR; have Hrun := Lib.hid hrun; have Hown := Lib.hid hown6; have Hgr := Lib.hid hgr6; have Hblk := Lib.hid hblk
  have Hgb := Lib.hid hgb; have Hvb := Lib.hid hvb
  clear hfa hHW ht hx hdW hbW hR hrun hown6 hgr6 hblk hBW hgb hvb c1 c2 c3 hi hz0 hz1 hz2
  go_wp2_with fail
  refine Stage.wp_region (by kernel_rfl) (by kernel_rfl) (Stage.two 6 9 (Seq3 W.drew w6 (w6.setCell ⟨gb, 0, none⟩ (.slice A6 (x.b.length + bs.length) c6)))) (Stage.two_start (by simp) (by simp) (show Seq3 W.drew w6 (w6.setCell ⟨gb, 0, none⟩ (.slice A6 (x.b.length + bs.length) c6)) false false W.drew from rfl)) ?_
  refine Stage.wpSt_reads 1 (fun _ => True) (by kernel_rfl) (Stage.two_any (by simp) (by simp)) ?_
  simp only [List.take_succ_cons, List.take_zero, List.drop_succ_cons, List.drop_zero]
  repeat (go_big_quiet_step (fail))
  refine wpQuiet_nil ?_
  refine Stage.wpSt_reads 5 (fun w' => w' = W.drew) (by kernel_rfl) (Stage.two_before (by kernel_rfl)) ?_
  simp only [List.take_succ_cons, List.take_zero, List.drop_succ_cons, List.drop_zero]
  repeat (go_big_quiet_step (fail))
  refine wpQuiet_nil ?_
  have hR6 : Row w6 gb TF [vb, .int .i64 (x.sure : Nat), .bool x.made] := by
    have hr := HfA.out.row
    rw [← Hgb.out, ← Hvb.out] at hr
    refine Row.grown (w := W.drew) hr Hgr.out ?_
    intro e
    exact own_ne (w := W) (t := 5) HfA.out.own e.symm hr (by decide)
  refine Stage.wpSt_do (.slice A6 (x.b.length + bs.length) c6) rfl (Stage.two_first (by decide) (by kernel_rfl) ?_) ?_
  · rintro w' rfl
    exact stage_append _ _ TB rfl vb _ rfl rfl Hrun.out rfl
  go_simp
  refine Stage.wpSt_reads 2 (fun _ => True) (by kernel_rfl) (Stage.two_any (by simp) (by simp)) ?_
  simp only [List.take_succ_cons, List.take_zero, List.drop_succ_cons, List.drop_zero]
  repeat (go_big_quiet_step (fail))
  refine wpQuiet_nil ?_
  have h6c : w6.cell? ⟨gb, 0, none⟩ = some vb := hR6.cell 0
  have h6z : w6.frozen? ⟨gb, 0, none⟩ = false := hR6.free 0
  have HR6 := Lib.hid hR6; clear hR6
  refine Stage.wpSt_do undef rfl (Stage.two_then (by decide) (by kernel_rfl) ?_) ?_
  · intro w' hw'
    have e : w' = w6 := hw'
    subst e
    unfold Stage.at_
    go_simp
    exact ⟨rfl, rfl⟩
  go_simp
  refine Stage.wpSt_nil (Stage.two_end ?_)
  intro w7 hw7
  have e7 : w7 = w6.setCell ⟨gb, 0, none⟩ (.slice A6 (x.b.length + bs.length) c6) := hw7
  have hR7 : Row w7 gb TF [.slice A6 (x.b.length + bs.length) c6, .int .i64 (x.sure : Nat), .bool x.made] := by rw [e7]; exact HR6.out.put 0 _
  have hpg : p ≠ gb := by
    have := HRW.out.apart HfA.out.row (by decide); rwa [← Hgb.out] at this
  have hgt : Touch (fun k => k = gb ∨ (v' n).ownBlock = some k) W w7 := by
    rw [e7]
    refine ((Touch.refl _ W).drew.trans (Touch.of_grown Hgr.out (fun k hk => .inr hk))).setCell (p := ⟨gb, 0, none⟩) (.inl (.inl rfl)) _
  have hpm := HHW.out.files.pm HRW.out HHW.out.map HX.out
  rw [← Hgb.out] at hpm
  have hr7 : Row w7 p TD (dcells r u m' dd o f) := HRW.out.touch hgt (by
    rintro (e | e)
    · exact hpg e
    · exact hpm.2 p e (.inl rfl))
  have hfa7 : FileAt w7 (g' n) (.slice A6 (x.b.length + bs.length) c6) (appF x bs) := by
    rw [← Hgb.out]
    refine ⟨hR7, ?_, ?_⟩
    · have ho : w7.ownsRow 0 5 1 (.slice A6 (x.b.length + bs.length) c6) (x.b.length + bs.length) (u8s x.b ++ u8s bs) := by
        rw [e7]
        refine ownsRow_touch (F := (· = gb)) Hown.out ((Touch.refl (· = gb) w6).setCell (p := ⟨gb, 0, none⟩) (.inl rfl) _) ?_
        rintro k hk rfl
        exact own_ne Hown.out hk HR6.out (by decide)
      have e1 : (appF x bs).b.length = x.b.length + bs.length := by simp [appF]
      rw [e1]
      show World.ownsRow _ _ _ _ _ _ (u8s (x.b ++ bs))
      rw [show u8s (x.b ++ bs) = u8s x.b ++ u8s bs from List.map_append]
      exact ho
    · intro y hy
      rcases List.mem_append.1 hy with hy | hy
      · exact HfA.out.lt y hy
      · exact HB.out.1 y hy
  have hq1 : ¬ (fun k => k = gb ∨ (v' n).ownBlock = some k) kd := by
    rintro (e | e)
    · subst e; have := HfA.out.row; rw [← Hgb.out] at this; exact (this.apart HdW.out (by decide)) rfl
    · exact own_ne HfA.out.own e HdW.out (by decide)
  have hq2 : ¬ (fun k => k = gb ∨ (v' n).ownBlock = some k) kb := by
    rintro (e | e)
    · subst e; have := HfA.out.row; rw [← Hgb.out] at this; exact (this.apart HbW.out (by decide)) rfl
    · exact own_ne HfA.out.own e HbW.out (by decide)
  have hM7 : MapAt w7 m' (putF n (appF x bs) (openF n fs)) g' := by
    refine MapAt.keep (HHW.out.map.touch hgt ?_) HHW.out.ok.sort HX.out
    rintro b rfl (e | e)
    · exact hpm.1 (.inr (by rw [e]))
    · exact hpm.2 b e (.inr rfl)
  have hfs7 := HHW.out.files.change HX.out hgt (by
    intro k z hz hk
    refine ⟨?_, fun i hi => ?_⟩
    · rintro (e | e)
      · exact HHW.out.files.apart k n z x hz HX.out hk (by rw [e]; exact Hgb.out)
      · have h1 := (HHW.out.files.at_ k z hz).row
        exact own_ne HfA.out.own e h1 (by decide)
    · rintro (e | e)
      · have h1 := HfA.out.row
        rw [← Hgb.out, ← e] at h1
        exact own_ne (HHW.out.files.at_ k z hz).own hi h1 (by decide)
      · exact HHW.out.files.apartv k n z x hz HX.out hk i hi e) hfa7 (by
    intro i hi
    exact Hblk.out i hi)
  have s1 : w7.cell? ⟨kd, 0, none⟩ = some (.pointer (some ⟨p, 0, none⟩)) := (HdW.out.touch hgt hq1).cell 0
  have s3 : w7.cell? ⟨kb, 0, none⟩ = some (.slice (some A) bs.length c) := (HbW.out.touch hgt hq2).cell 0
  obtain ⟨d0, d1, d2, d3, d4, d5⟩ := drow hr7
  have dz := hr7.free
  have H7 := Lib.hid hr7; have HM7 := Lib.hid hM7; have Hfs7 := Lib.hid hfs7; have HT7 := Lib.hid hgt
  clear hw7 e7 hR7 hgt hpm hr7 hfa7 hq1 hq2 hM7 hfs7 h6c h6z k0 k1 k2 q1 q3
  go_wp2_with fail
  go_region
  go_end0
  have e8 : (u : Int) + (bs.length : Int) = ((u + bs.length : Nat) : Int) := by omega
  rw [e8]
  have hr8 := (H7.out.put 1 (.int .i64 ((u + bs.length : Nat) : Int))).drew
  have ht8 : Touch (· = p) w7 (w7.setCell ⟨p, 1, none⟩ (.int .i64 ((u + bs.length : Nat) : Int))).drew := ((Touch.refl (· = p) w7).setCell (p := ⟨p, 1, none⟩) (.inl rfl) _).drew
  have hsz : (w7.setCell ⟨p, 1, none⟩ (.int .i64 ((u + bs.length : Nat) : Int))).drew.heap.size = w7.heap.size := by show (w7.setCell _ _).heap.size = _; simp
  generalize hw8 : (w7.setCell ⟨p, 1, none⟩ (.int .i64 ((u + bs.length : Nat) : Int))).drew = w8 at hr8 ht8 hsz ⊢
  have hx := HX.out
  have hok := HHW.out.ok
  have hsu := hok.sure _ _ hx
  have hheld : Held w7 (Ext (Ext F w W) W w7) p m' (putF n (appF x bs) (openF n fs)) g' (updv v' n (.slice A6 (x.b.length + bs.length) c6)) :=
    ⟨HM7.out, Hfs7.out, hok.keys hx (by simp [appF]; omega) (by simp [appF]; omega), .inl HHW.out.memp, fun b hb => .inl (HHW.out.memm b hb)⟩
  have ht7 : Touch F w w7 := HT.out.ext (HT7.out.mono (by
    rintro i (e | e)
    · rw [e, Hgb.out]; exact HHW.out.files.mem _ _ hx
    · exact HHW.out.files.memv _ _ hx i e))
  refine ⟨rfl, m', g', _, x, hx, hr8, (hheld.own H7.out ht8).mono (fun k hk => ?_), ht7.trans (ht8.mono (by rintro i rfl; exact HH.out.memp))⟩
  have := Ext.step HT.out.size HT7.out.size k hk
  unfold Ext at this ⊢
  rw [hsz]; exact this
end
end Go.Proofs.Ytiagoaaldpajmaa
namespace Go.Proofs.Ytiagoaaldpajmaa
open Go.ChangeShapes Go.WideShapes Go.ChangeAt Go.RowKit Go.BigFrame Go.Maps Go.Sort
set_option linter.unusedVariables false
section
variable (w : World)
theorem boxes2 (t1 t2 : TypeId) (l1 l2 : List Value) :
    Row ((w.alloc (.cells l1.toArray t1)).alloc (.cells l2.toArray t2)) w.heap.size t1 l1 ∧ Row ((w.alloc (.cells l1.toArray t1)).alloc (.cells l2.toArray t2)) (w.heap.size + 1) t2 l2 ∧
    Touch (fun _ => False) w ((w.alloc (.cells l1.toArray t1)).alloc (.cells l2.toArray t2)) ∧ ((w.alloc (.cells l1.toArray t1)).alloc (.cells l2.toArray t2)).heap.size = w.heap.size + 1 + 1 := by
  refine ⟨(Row.made w t1 l1).alloc _, ?_, ((Touch.refl _ _).alloc _).alloc _, by simp⟩
  have := Row.made (w.alloc (.cells l1.toArray t1)) t2 l2
  simpa using this
theorem boxes3 (t1 t2 t3 : TypeId) (l1 l2 l3 : List Value) :
    Row (((w.alloc (.cells l1.toArray t1)).alloc (.cells l2.toArray t2)).alloc (.cells l3.toArray t3)) w.heap.size t1 l1 ∧ Row (((w.alloc (.cells l1.toArray t1)).alloc (.cells l2.toArray t2)).alloc (.cells l3.toArray t3)) (w.heap.size + 1) t2 l2 ∧
    Row (((w.alloc (.cells l1.toArray t1)).alloc (.cells l2.toArray t2)).alloc (.cells l3.toArray t3)) (w.heap.size + 1 + 1) t3 l3 ∧
    Touch (fun _ => False) w (((w.alloc (.cells l1.toArray t1)).alloc (.cells l2.toArray t2)).alloc (.cells l3.toArray t3)) ∧ (((w.alloc (.cells l1.toArray t1)).alloc (.cells l2.toArray t2)).alloc (.cells l3.toArray t3)).heap.size = w.heap.size + 1 + 1 + 1 := by
  obtain ⟨h1, h2, h3, h4⟩ := boxes2 w t1 t2 l1 l2
  refine ⟨h1.alloc _, h2.alloc _, ?_, h3.alloc _, by simp⟩
  have := Row.made ((w.alloc (.cells l1.toArray t1)).alloc (.cells l2.toArray t2)) t3 l3
  simpa using this
theorem boxes4 (t1 t2 t3 t4 : TypeId) (l1 l2 l3 l4 : List Value) :
    Row ((((w.alloc (.cells l1.toArray t1)).alloc (.cells l2.toArray t2)).alloc (.cells l3.toArray t3)).alloc (.cells l4.toArray t4)) w.heap.size t1 l1 ∧ Row ((((w.alloc (.cells l1.toArray t1)).alloc (.cells l2.toArray t2)).alloc (.cells l3.toArray t3)).alloc (.cells l4.toArray t4)) (w.heap.size + 1) t2 l2 ∧
    Row ((((w.alloc (.cells l1.toArray t1)).alloc (.cells l2.toArray t2)).alloc (.cells l3.toArray t3)).alloc (.cells l4.toArray t4)) (w.heap.size + 1 + 1) t3 l3 ∧ Row ((((w.alloc (.cells l1.toArray t1)).alloc (.cells l2.toArray t2)).alloc (.cells l3.toArray t3)).alloc (.cells l4.toArray t4)) (w.heap.size + 1 + 1 + 1) t4 l4 ∧
    Touch (fun _ => False) w ((((w.alloc (.cells l1.toArray t1)).alloc (.cells l2.toArray t2)).alloc (.cells l3.toArray t3)).alloc (.cells l4.toArray t4)) ∧ ((((w.alloc (.cells l1.toArray t1)).alloc (.cells l2.toArray t2)).alloc (.cells l3.toArray t3)).alloc (.cells l4.toArray t4)).heap.size = w.heap.size + 1 + 1 + 1 + 1 := by
  obtain ⟨h1, h2, h3, h4, h5⟩ := boxes3 w t1 t2 t3 l1 l2 l3
  refine ⟨h1.alloc _, h2.alloc _, h3.alloc _, ?_, h4.alloc _, by simp⟩
  have := Row.made (((w.alloc (.cells l1.toArray t1)).alloc (.cells l2.toArray t2)).alloc (.cells l3.toArray t3)) t4 l4
  simpa using this
end
section
variable {w w' : World} {F : Nat → Prop} {g : Nm → Nat} {v : Nm → Value} {p r u dd f : Nat} {m : Option Nat} {o : Bool} {d : DM} {fs : Fs}
theorem length_quiet (h : Row w p TD (dcells r u m dd o f)) (hM : MapAt w m fs g) (hF : FilesAt w F fs g v) (s : ByteArray) (hs : s.size ≤ 9223372036854775807) (k : Nat) :
    Calls Try.prog 36 #[.pointer (some ⟨p, 0, none⟩), .string s] (w.drewN k) fun e w' => e = .returned (.int .i64 (lenF s.data.toList fs : Nat)) ∧ ∃ j, w' = w.drewN j :=
  Calls.quiet_of_same ((length_any (w := w.drewN k) (h.drewN k) (hM.touch ((Touch.refl (fun _ => False) w).drewN k) (by simp)) (hF.touch ((Touch.refl (fun _ => False) w).drewN k) (by simp)) s hs).mono fun _ _ ⟨he, hm⟩ => ⟨he, hm.symm⟩)
theorem DiskAt.still (h : DiskAt w p d F m g v) (ht : Touch (fun _ => False) w w') : DiskAt w' p d F m g v := h.touch ht (by simp)
theorem DiskAt.mono {F' : Nat → Prop} (h : DiskAt w p d F m g v) (hF : ∀ k, F k → F' k) : DiskAt w p d F' m g v :=
  ⟨h.row, h.map, h.files.mono hF, hF _ h.memp, fun b hb => hF _ (h.memm b hb), h.ok, h.used, h.room, h.few, h.fuse⟩
end
end Go.Proofs.Ytiagoaaldpajmaa
namespace Go.Proofs.Ytiagoaaldpajmaa
open Go.ChangeShapes Go.WideShapes Go.ChangeAt Go.RowKit Go.BigFrame Go.Maps Go.Sort
set_option linter.unusedVariables false

theorem del_put {n : Nm} {y : Fil} {fs : Fs} : delF n (putF n y fs) = delF n fs := by
  have aux : ∀ l : Fs, (∀ q ∈ l, q.1 ≠ n) → delF n (insF (n, y) l) = l := by
    intro l
    induction l with
    | nil => intro _; simp [insF, delF]
    | cons q r ih =>
      intro h
      have hq : ¬ q.1 = n := h q (by simp)
      have hr := ih (fun q hq => h q (by simp [hq]))
      have hrr : delF n r = r := by
        unfold delF; rw [List.filter_eq_self]; intro z hz; simpa using h z (by simp [hz])
      unfold insF
      split
      · unfold delF at hrr ⊢
        simp [List.filter_cons, hq, hrr]
      · unfold delF at hr ⊢
        simp [List.filter_cons, hq, hr]
  exact aux _ fun q hq => (mem_delF.1 hq).2
theorem put_twice {n : Nm} {x y : Fil} {fs : Fs} : putF n x (putF n y fs) = putF n x fs := by
  unfold putF; rw [show delF n (insF (n, y) (delF n fs)) = delF n fs from del_put]
/-- bytes behind a file's -/
def appendF (n : Nm) (bs : List Nat) (fs : Fs) : Fs := putF n (appF ((getF n fs).getD newF) bs) fs
theorem appendF_open {n : Nm} {bs : List Nat} {fs : Fs} {x : Fil} (h : getF n (openF n fs) = some x) : putF n (appF x bs) (openF n fs) = appendF n bs fs := by
  unfold appendF
  cases hg : getF n fs with
  | some y => rw [openF_some hg] at h ⊢; rw [hg] at h; cases h; rfl
  | none => rw [openF_none hg] at h ⊢; rw [getF_put_same] at h; cases h; rw [put_twice]; rfl
/-- a deed is counted -/
def DM.tick (d : DM) : DM := if d.fuse = 1 then { d with deeds := d.deeds + 1, off := true, fuse := 0 } else { d with deeds := d.deeds + 1, fuse := d.fuse - 1 }
def appE (d : DM) (s : ByteArray) (k : Nat) : Int :=
  if lookE d.off [s] ≠ 0 then lookE d.off [s] else if 8388608 < lenF s.data.toList d.fs + k then 3 else if d.room < usedF d.fs + k then 31 else if d.fuse = 1 then 30 else 0
def appD (d : DM) (s : ByteArray) (bs : List Nat) : DM :=
  if lookE d.off [s] ≠ 0 then d else if 8388608 < lenF s.data.toList d.fs + bs.length then d else if d.room < usedF d.fs + bs.length then d else { d.tick with fs := appendF s.data.toList bs d.fs }
section
variable {w w' : World} {F : Nat → Prop} {fs : Fs} {g : Nm → Nat} {v : Nm → Value} {n : Nm} {x y : Fil} {p r u dd f : Nat} {m : Option Nat} {o : Bool} {d : DM}
theorem DiskAt.held (h : DiskAt w p d F m g v) : Held w F p m d.fs g v := ⟨h.map, h.files, h.ok, h.memp, h.memm⟩
theorem lookE_ok {s : ByteArray} {o : Bool} (h : lookE o [s] = 0) : o = false ∧ 1 ≤ s.size ∧ s.size ≤ 128 := by
  unfold lookE at h
  cases o with
  | true => simp at h
  | false =>
    simp [okName] at h
    exact ⟨rfl, by omega, by omega⟩
theorem lenF_ok (h : OkFs fs) : lenF n fs ≤ 8388608 := by
  unfold lenF
  split
  · rename_i x hx; exact h.len _ _ hx
  · omega
theorem bytes_touch {A : Addr} {bs : List Nat} (h : Bytes w (some A) bs) {G : Nat → Prop} (ht : Touch G w w') (hG : 0 < bs.length → ¬ G A.block) : Bytes w' (some A) bs := ⟨h.1, fun h0 => by
  obtain ⟨ad, e, hlt, hc⟩ := h.2 h0
  injection e with e; subst e
  refine ⟨A, rfl, Nat.lt_of_lt_of_le hlt ht.size, fun j y hy => ?_⟩
  rw [← hc j y hy]
  have := add_block A j
  exact World.cell?_of_block (by rw [this]; exact ht.block _ hlt (hG h0))⟩
set_option maxRecDepth 100000 in
set_option maxHeartbeats 2000000 in
theorem append_bad (h : DiskAt w p d F m g v) (s : ByteArray) (A : Addr) (bs : List Nat) (c : Nat) (hs : s.size ≤ 9223372036854775807) (hlk : ¬ lookE d.off [s] = 0) :
    Calls Try.prog 14 #[.pointer (some ⟨p, 0, none⟩), .string s, .slice (some A) bs.length c] w fun e w' => e = .returned (.int .i64 (lookE d.off [s])) ∧ DiskAt w' p d F m g v ∧ Touch (fun _ => False) w w' := by
  have hl2 : (lookE d.off [s] != 0) = true := by simpa using hlk
  have HH := Lib.hid h; clear h hlk
  have hbx := boxes4 w TP TS TB TS [.pointer (some ⟨p, 0, none⟩)] [.string s] [.slice (some A) bs.length c] [.string s]
  go_enter Try.func14, Try.ntmps14
  go_wp2_with fail
  obtain ⟨kd, hkd⟩ : ∃ kd, kd = w.heap.size := ⟨_, rfl⟩
  obtain ⟨ks, hks⟩ : ∃ ks, ks = w.heap.size + 1 := ⟨_, rfl⟩
  obtain ⟨kb, hkb⟩ : ∃ kb, kb = w.heap.size + 1 + 1 := ⟨_, rfl⟩
  obtain ⟨kn, hkn⟩ : ∃ kn, kn = w.heap.size + 1 + 1 + 1 := ⟨_, rfl⟩
  rw [← hkn, ← hkb, ← hks, ← hkd]
  rw [← hkn, ← hkb, ← hks, ← hkd] at hbx
  generalize (((w.alloc (.cells #[.pointer (some ⟨p, 0, none⟩)] TP)).alloc (.cells #[.string s] TS)).alloc (.cells #[.slice (some A) bs.length c] TB)).alloc (.cells #[.string s] TS) = W at hbx ⊢
  obtain ⟨hd1, hs1, hb1, hn1, ht1, hz1⟩ := hbx
  have hD1 := HH.out.still ht1
  have hlook := look_any hD1.row kn [s] [] hn1 1 (by simp) (by simp) (by simpa using hs)
  have HLk := Lib.hid hlook; have HD1 := Lib.hid hD1; have Hd1 := Lib.hid hd1; have Hs1 := Lib.hid hs1; have Hb1 := Lib.hid hb1; have HT1 := Lib.hid ht1; have HZ1 := Lib.hid hz1
  have Hkd := Lib.hid hkd; have Hks := Lib.hid hks; have Hkb := Lib.hid hkb
  clear hlook hD1 hd1 hs1 hb1 hn1 ht1 hz1 hkd hks hkb hkn
  refine (HLk.out).mono ?_; rintro e w1 ⟨rfl, rfl⟩
  go_wp2_with fail
  go_ret
  exact ⟨rfl, HD1.out, HT1.out⟩
set_option maxRecDepth 100000 in
set_option maxHeartbeats 2000000 in
theorem append_limit (h : DiskAt w p d F m g v) (s : ByteArray) (A : Addr) (bs : List Nat) (c : Nat) (hs : s.size ≤ 9223372036854775807) (hb : bs.length ≤ 1000000000) (hlk : lookE d.off [s] = 0) (hlim : 8388608 < lenF s.data.toList d.fs + bs.length) :
    Calls Try.prog 14 #[.pointer (some ⟨p, 0, none⟩), .string s, .slice (some A) bs.length c] w fun e w' => e = .returned (.int .i64 3) ∧ DiskAt w' p d F m g v ∧ Touch (fun _ => False) w w' := by
  obtain ⟨L, hL⟩ : ∃ L, L = lenF s.data.toList d.fs := ⟨_, rfl⟩
  rw [← hL] at hlim
  have hL8 : L ≤ 8388608 := by rw [hL]; exact lenF_ok h.ok
  have HH := Lib.hid h; have HL := Lib.hid hlk; have HLe := Lib.hid hL; clear h hlk hL
  have hbx := boxes4 w TP TS TB TS [.pointer (some ⟨p, 0, none⟩)] [.string s] [.slice (some A) bs.length c] [.string s]
  go_enter Try.func14, Try.ntmps14
  go_wp2_with fail
  obtain ⟨kd, hkd⟩ : ∃ kd, kd = w.heap.size := ⟨_, rfl⟩
  obtain ⟨ks, hks⟩ : ∃ ks, ks = w.heap.size + 1 := ⟨_, rfl⟩
  obtain ⟨kb, hkb⟩ : ∃ kb, kb = w.heap.size + 1 + 1 := ⟨_, rfl⟩
  obtain ⟨kn, hkn⟩ : ∃ kn, kn = w.heap.size + 1 + 1 + 1 := ⟨_, rfl⟩
  rw [← hkn, ← hkb, ← hks, ← hkd]
  rw [← hkn, ← hkb, ← hks, ← hkd] at hbx
  generalize (((w.alloc (.cells #[.pointer (some ⟨p, 0, none⟩)] TP)).alloc (.cells #[.string s] TS)).alloc (.cells #[.slice (some A) bs.length c] TB)).alloc (.cells #[.string s] TS) = W at hbx ⊢
  obtain ⟨hd1, hs1, hb1, hn1, ht1, hz1⟩ := hbx
  have hD1 := HH.out.still ht1
  have hlook := look_any hD1.row kn [s] [] hn1 1 (by simp) (by simp) (by simpa using hs)
  have HLk := Lib.hid hlook; have HD1 := Lib.hid hD1; have Hd1 := Lib.hid hd1; have Hs1 := Lib.hid hs1; have Hb1 := Lib.hid hb1; have HT1 := Lib.hid ht1; have HZ1 := Lib.hid hz1
  have Hkd := Lib.hid hkd; have Hks := Lib.hid hks; have Hkb := Lib.hid hkb
  clear hlook hD1 hd1 hs1 hb1 hn1 ht1 hz1 hkd hks hkb hkn
  have e0 := HLk.out
  rw [HL.out] at e0
  have HLk0 := Lib.hid e0; clear e0
  refine (HLk0.out).mono ?_; rintro e w1 ⟨rfl, rfl⟩
  obtain ⟨d0, d1, d2, d3, d4, d5⟩ := drow HD1.out.row
  have q1 : W.cell? ⟨kd, 0, none⟩ = some (.pointer (some ⟨p, 0, none⟩)) := Hd1.out.cell 0
  have q2 : W.cell? ⟨ks, 0, none⟩ = some (.string s) := Hs1.out.cell 0
  have q3 : W.cell? ⟨kb, 0, none⟩ = some (.slice (some A) bs.length c) := Hb1.out.cell 0
  have hlq := fun k => length_quiet HD1.out.row HD1.out.map HD1.out.files s hs k
  rw [← HLe.out] at hlq
  have HLq := Lib.hid hlq; clear hlq
  go_wp2_with fail
  have hwr : IntKind.i64.wrap (8388608 - (L : Int)) = 8388608 - (L : Int) := IntWalk.i64_in _ (by omega)
  go_quiet ((go_at_call 36; exact HLq.out _))
  go_wp2_with fail
  go_ret
  exact ⟨rfl, HD1.out.still ((Touch.refl _ _).drewN _), HT1.out.drewN _⟩
set_option maxRecDepth 100000 in
set_option maxHeartbeats 2000000 in
theorem append_full (h : DiskAt w p d F m g v) (s : ByteArray) (A : Addr) (bs : List Nat) (c : Nat) (hs : s.size ≤ 9223372036854775807) (hb : bs.length ≤ 1000000000) (hlk : lookE d.off [s] = 0) (hlim : lenF s.data.toList d.fs + bs.length ≤ 8388608) (hfull : d.room < usedF d.fs + bs.length) :
    Calls Try.prog 14 #[.pointer (some ⟨p, 0, none⟩), .string s, .slice (some A) bs.length c] w fun e w' => e = .returned (.int .i64 31) ∧ DiskAt w' p d F m g v ∧ Touch (fun _ => False) w w' := by
  obtain ⟨L, hL⟩ : ∃ L, L = lenF s.data.toList d.fs := ⟨_, rfl⟩
  rw [← hL] at hlim
  obtain ⟨U, hU⟩ : ∃ U, U = usedF d.fs := ⟨_, rfl⟩
  have hu := h.used; have hro := h.room
  rw [← hU] at hu hfull
  have HH := Lib.hid h; have HL := Lib.hid hlk; have HLe := Lib.hid hL; have HU := Lib.hid hU; clear h hlk hL hU
  have hbx := boxes4 w TP TS TB TS [.pointer (some ⟨p, 0, none⟩)] [.string s] [.slice (some A) bs.length c] [.string s]
  go_enter Try.func14, Try.ntmps14
  go_wp2_with fail
  obtain ⟨kd, hkd⟩ : ∃ kd, kd = w.heap.size := ⟨_, rfl⟩
  obtain ⟨ks, hks⟩ : ∃ ks, ks = w.heap.size + 1 := ⟨_, rfl⟩
  obtain ⟨kb, hkb⟩ : ∃ kb, kb = w.heap.size + 1 + 1 := ⟨_, rfl⟩
  obtain ⟨kn, hkn⟩ : ∃ kn, kn = w.heap.size + 1 + 1 + 1 := ⟨_, rfl⟩
  rw [← hkn, ← hkb, ← hks, ← hkd]
  rw [← hkn, ← hkb, ← hks, ← hkd] at hbx
  generalize (((w.alloc (.cells #[.pointer (some ⟨p, 0, none⟩)] TP)).alloc (.cells #[.string s] TS)).alloc (.cells #[.slice (some A) bs.length c] TB)).alloc (.cells #[.string s] TS) = W at hbx ⊢
  obtain ⟨hd1, hs1, hb1, hn1, ht1, hz1⟩ := hbx
  have hD1 := HH.out.still ht1
  have hlook := look_any hD1.row kn [s] [] hn1 1 (by simp) (by simp) (by simpa using hs)
  have HLk := Lib.hid hlook; have HD1 := Lib.hid hD1; have Hd1 := Lib.hid hd1; have Hs1 := Lib.hid hs1; have Hb1 := Lib.hid hb1; have HT1 := Lib.hid ht1; have HZ1 := Lib.hid hz1
  have Hkd := Lib.hid hkd; have Hks := Lib.hid hks; have Hkb := Lib.hid hkb
  clear hlook hD1 hd1 hs1 hb1 hn1 ht1 hz1 hkd hks hkb hkn
  have e0 := HLk.out
  rw [HL.out] at e0
  have HLk0 := Lib.hid e0; clear e0
  refine (HLk0.out).mono ?_; rintro e w1 ⟨rfl, rfl⟩
  obtain ⟨d0, d1, d2, d3, d4, d5⟩ := drow HD1.out.row
  have q1 : W.cell? ⟨kd, 0, none⟩ = some (.pointer (some ⟨p, 0, none⟩)) := Hd1.out.cell 0
  have q2 : W.cell? ⟨ks, 0, none⟩ = some (.string s) := Hs1.out.cell 0
  have q3 : W.cell? ⟨kb, 0, none⟩ = some (.slice (some A) bs.length c) := Hb1.out.cell 0
  rw [← HU.out] at d1
  have hwr2 : IntKind.i64.wrap ((d.room : Int) - (U : Int)) = (d.room : Int) - (U : Int) := IntWalk.i64_in _ (by omega)
  have hlq := fun k => length_quiet HD1.out.row HD1.out.map HD1.out.files s hs k
  rw [← HLe.out] at hlq
  have HLq := Lib.hid hlq; clear hlq
  go_wp2_with fail
  have hwr : IntKind.i64.wrap (8388608 - (L : Int)) = 8388608 - (L : Int) := IntWalk.i64_in _ (by omega)
  go_quiet ((go_at_call 36; exact HLq.out _))
  go_wp2_with fail
  go_quiet (fail)
  go_wp2_with fail
  go_ret
  exact ⟨rfl, HD1.out.still (((Touch.refl _ _).drewN _).drewN _), (HT1.out.drewN _).drewN _⟩
end
end Go.Proofs.Ytiagoaaldpajmaa
