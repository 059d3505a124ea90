/- Several texts in one: File, AppC. -/
import Derived.Test.YtiagoaaldpajmaaVh
import Derived.Maps.Ext
namespace Go.Proofs.Ytiagoaaldpajmaa
open Go.RowKit Go.Maps
set_option linter.unusedVariables false

/-- what a call may have added -/
def Ext (F : Nat → Prop) (w w' : World) (k : Nat) : Prop := F k ∨ (w.heap.size ≤ k ∧ k < w'.heap.size)
theorem Ext.self {F : Nat → Prop} {w : World} (k : Nat) (h : Ext F w w k) : F k := by rcases h with h | h; exact h; omega
theorem Ext.step {F : Nat → Prop} {w w1 w2 : World} (h1 : w.heap.size ≤ w1.heap.size) (h2 : w1.heap.size ≤ w2.heap.size) (k : Nat) (h : Ext (Ext F w w1) w1 w2 k) : Ext F w w2 k := by
  rcases h with (h | ⟨a, b⟩) | ⟨a, b⟩
  · exact .inl h
  · exact .inr ⟨a, by omega⟩
  · exact .inr ⟨by omega, b⟩
theorem Touch.ext {F : Nat → Prop} {w w1 w2 : World} (h : Touch F w w1) (k : Touch (Ext F w w1) w1 w2) : Touch F w w2 := h.trans' k fun i hi => by
  rcases hi with hi | hi
  · exact .inl hi
  · exact .inr hi.1
def updv (v : Nm → Value) (n : Nm) (x : Value) : Nm → Value := fun m => if m = n then x else v m

section
variable {w w' : World} {F : Nat → Prop} {fs : Fs} {g : Nm → Nat} {v : Nm → Value} {n : Nm} {x y : Fil} {p r u dd f : Nat} {m : Option Nat} {o : Bool}
theorem OkFs.keys (h : OkFs fs) (hg : getF n fs = some x) (hy : y.sure ≤ y.b.length) (hl : y.b.length ≤ 8388608) : OkFs (putF n y fs) := by
  refine ⟨h.sort.put, ?_, ?_, ?_⟩
  all_goals
    intro k z hz
    by_cases hk : k = n
    · subst hk
      rw [getF_put_same] at hz
      cases hz
      first | exact h.name _ _ hg | assumption
    · rw [getF_put_ne hk] at hz
      first | exact h.name _ _ hz | exact h.sure _ _ hz | exact h.len _ _ hz
theorem OkFs.add (h : OkFs fs) (hn : 1 ≤ n.length ∧ n.length ≤ 128) (hy : y.sure ≤ y.b.length) (hl : y.b.length ≤ 8388608) : OkFs (putF n y fs) := by
  refine ⟨h.sort.put, ?_, ?_, ?_⟩
  all_goals
    intro k z hz
    by_cases hk : k = n
    · subst hk
      rw [getF_put_same] at hz
      cases hz
      first | exact hn | assumption
    · rw [getF_put_ne hk] at hz
      first | exact h.name _ _ hz | exact h.sure _ _ hz | exact h.len _ _ hz
theorem OkFs.drop (h : OkFs fs) : OkFs (delF n fs) := by
  refine ⟨h.sort.del, ?_, ?_, ?_⟩
  all_goals
    intro k z hz
    by_cases hk : k = n
    · subst hk; rw [getF_del_same] at hz; cases hz
    · rw [getF_del_ne hk] at hz
      first | exact h.name _ _ hz | exact h.sure _ _ hz | exact h.len _ _ hz
theorem insF_len {x : Nm × Fil} : ∀ {fs : Fs}, (insF x fs).length = fs.length + 1
  | [] => rfl
  | y :: r => by
    unfold insF; split
    · simp
    · simp [insF_len (fs := r)]
theorem delF_len : (delF n fs).length ≤ fs.length := List.length_filter_le _ _
theorem putF_len : (putF n y fs).length ≤ fs.length + 1 := by unfold putF; rw [insF_len]; have := delF_len (n := n) (fs := fs); omega
theorem delF_len_lt (h : getF n fs = some x) : (delF n fs).length + 1 ≤ fs.length := by
  have := List.length_filter_lt_length_iff_exists (p := fun p : Nm × Fil => !(p.1 == n)) (l := fs) |>.2 ⟨_, mem_of_getF h, by simp⟩
  unfold delF; omega
theorem putF_len_old (h : getF n fs = some x) : (putF n y fs).length ≤ fs.length := by unfold putF; rw [insF_len]; have := delF_len_lt h; omega
/-- a file that was there, with other bytes: the map is the same -/
theorem dat_keep (hS : SortF fs) (h : getF n fs = some x) : dat (putF n y fs) g = dat fs g := by
  unfold dat
  congr 1
  have srt : ∀ l : Fs, SortF l → (l.map fun p => ((Lit.string p.1, DataW.lit (.int .i64 (g p.1))) : Lit × DataW Unit)).Pairwise (fun p q => p.1.before q.1 = true) := by
    intro l hl
    rw [List.pairwise_map]
    exact hl
  refine Maps.eq_of_mem_rising (srt _ hS.put) (srt _ hS) fun q => ?_
  constructor
  · intro hq
    obtain ⟨z, hz, rfl⟩ := List.mem_map.1 hq
    unfold putF at hz
    rcases mem_insF.1 hz with rfl | hz
    · exact List.mem_map.2 ⟨(n, x), mem_of_getF h, rfl⟩
    · exact List.mem_map.2 ⟨z, (mem_delF.1 hz).1, rfl⟩
  · intro hq
    obtain ⟨z, hz, rfl⟩ := List.mem_map.1 hq
    by_cases hk : z.1 = n
    · exact List.mem_map.2 ⟨(n, y), mem_insF.2 (.inl rfl), by rw [← hk]⟩
    · exact List.mem_map.2 ⟨z, mem_insF.2 (.inr (mem_delF.2 ⟨hz, hk⟩)), rfl⟩
theorem MapAt.keep (hM : MapAt w m fs g) (hS : SortF fs) (h : getF n fs = some x) : MapAt w m (putF n y fs) g := by
  cases m with
  | none => rw [show fs = [] from hM] at h; simp [getF] at h
  | some b =>
    have hM : w.ownsMap Try.prog 9 refPtr b fs.length (dat fs g) := hM
    rw [← dat_keep (y := y) hS h] at hM
    exact MapAt.own hM
theorem FilesAt.mono {F' : Nat → Prop} (h : FilesAt w F fs g v) (hF : ∀ k, F k → F' k) : FilesAt w F' fs g v :=
  ⟨h.at_, fun n f hf => hF _ (h.mem n f hf), fun n f hf k hk => hF _ (h.memv n f hf k hk), h.apart, h.apartv⟩
theorem own_type {t : TypeId} {z : Value} {k l : Nat} {xs : List Value} (h : w.ownsRow 0 t 1 z l xs) (hk : z.ownBlock = some k) : ∃ cur, w.heap[k]? = some (.cells cur t (0, 0)) := by
  obtain ⟨_, ⟨rfl, _⟩ | ⟨g', cap, cur, rfl, _, hh, _⟩⟩ := h
  · cases hk
  · injection hk with hk; simp only at hk; subst hk; exact ⟨cur, hh⟩
theorem own_ne {t t' : TypeId} {z : Value} {k l : Nat} {xs ys : List Value} (h : w.ownsRow 0 t 1 z l xs) (hk : z.ownBlock = some k) (hr : Row w k t' ys) (hne : t ≠ t') : False := by
  obtain ⟨cur, hh⟩ := own_type h hk
  unfold Row at hr; rw [hr] at hh
  injection hh with hh; injection hh with _ ht; exact hne ht.symm
theorem map_ne_row {b k : Nat} {t : TypeId} {xs : List Value} {D : DataW Unit} {N : Nat} (h : w.ownsMap Try.prog 9 refPtr b N D) (hr : Row w k t xs) : b ≠ k := by
  rintro rfl
  obtain ⟨es, clock, hb, _⟩ := h
  unfold Row at hr; rw [hr] at hb; cases hb
theorem MapAt.ne_row {b k : Nat} {t : TypeId} {xs : List Value} (h : MapAt w (some b) fs g) (hr : Row w k t xs) : b ≠ k := map_ne_row h hr
theorem MapAt.ne_own {b k l : Nat} {t : TypeId} {z : Value} {xs : List Value} (h : MapAt w (some b) fs g) (hr : w.ownsRow 0 t 1 z l xs) (hk : z.ownBlock = some k) : b ≠ k := by
  rintro rfl
  obtain ⟨cur, hh⟩ := own_type hr hk
  obtain ⟨es, clock, hb, _⟩ := (show w.ownsMap Try.prog 9 refPtr b fs.length (dat fs g) from h)
  rw [hh] at hb; cases hb
theorem FileAt.lt_own {b : Nat} {z : Value} (h : FileAt w b z x) {k : Nat} (hk : z.ownBlock = some k) : k < w.heap.size := (h.own.lt k hk).2
/-- the disk's own block and its map's are no file's -/
theorem FilesAt.pm (h : FilesAt w F fs g v) (hr : Row w p TD (dcells r u m dd o f)) (hM : MapAt w m fs g) (hg : getF n fs = some x) : ¬ PM p m (g n) ∧ ∀ k, (v n).ownBlock = some k → ¬ PM p m k := by
  have hx := h.at_ n x hg
  refine ⟨?_, fun k hk => ?_⟩
  · rintro (e | e)
    · exact (hr.apart hx.row (by decide)) e.symm
    · subst e; exact hM.ne_row hx.row rfl
  · rintro (e | e)
    · subst e; exact own_ne hx.own hk hr (by decide)
    · subst e; exact hM.ne_own hx.own hk rfl
/-- one file changes -/
theorem FilesAt.change (h : FilesAt w F fs g v) (hg : getF n fs = some x) {G : Nat → Prop} (ht : Touch G w w')
    (hG : ∀ k z, getF k fs = some z → k ≠ n → ¬ G (g k) ∧ ∀ i, (v k).ownBlock = some i → ¬ G i) {v' : Value} (hy : FileAt w' (g n) v' y)
    (hb : ∀ i, v'.ownBlock = some i → (v n).ownBlock = some i ∨ w.heap.size ≤ i) : FilesAt w' (Ext F w w') (putF n y fs) g (updv v n v') := by
  have old : ∀ k z, getF k (putF n y fs) = some z → k ≠ n → getF k fs = some z := fun k z hz hk => by rwa [getF_put_ne hk] at hz
  have hvn : updv v n v' n = v' := by simp [updv]
  have hvk : ∀ k, k ≠ n → updv v n v' k = v k := fun k hk => by simp [updv, hk]
  have hnew : ∀ i, v'.ownBlock = some i → Ext F w w' i := fun i hi => by
    rcases hb i hi with hb | hb
    · exact .inl (h.memv n x hg i hb)
    · exact .inr ⟨hb, hy.lt_own hi⟩
  refine ⟨?_, ?_, ?_, ?_, ?_⟩
  · intro k z hz
    by_cases hk : k = n
    · subst hk; rw [getF_put_same] at hz; cases hz; rw [hvn]; exact hy
    · rw [hvk k hk]; have hz' := old k z hz hk
      exact (h.at_ k z hz').touch ht (hG k z hz' hk).1 (hG k z hz' hk).2
  · intro k z hz
    by_cases hk : k = n
    · subst hk; exact .inl (h.mem _ _ hg)
    · exact .inl (h.mem _ _ (old k z hz hk))
  · intro k z hz i hi
    by_cases hk : k = n
    · subst hk; rw [hvn] at hi; exact hnew i hi
    · rw [hvk k hk] at hi; exact .inl (h.memv _ _ (old k z hz hk) i hi)
  · intro a b z z' hz hz' hab
    have f1 : ∃ q, getF a fs = some q := by
      by_cases hk : a = n
      · subst hk; exact ⟨x, hg⟩
      · exact ⟨z, old a z hz hk⟩
    have f2 : ∃ q, getF b fs = some q := by
      by_cases hk : b = n
      · subst hk; exact ⟨x, hg⟩
      · exact ⟨z', old b z' hz' hk⟩
    obtain ⟨q1, e1⟩ := f1
    obtain ⟨q2, e2⟩ := f2
    exact h.apart a b q1 q2 e1 e2 hab
  · intro a b z z' hz hz' hab i hi
    by_cases ha : a = n
    · subst ha
      have hbn : b ≠ a := fun e => hab e.symm
      have e2 := old b z' hz' hbn
      rw [hvn] at hi; rw [hvk b hbn]
      intro hj
      rcases hb i hi with hb | hb
      · exact h.apartv _ _ _ _ hg e2 hab i hb hj
      · have := (h.at_ b z' e2).lt_own hj; omega
    · have e1 := old a z hz ha
      rw [hvk a ha] at hi
      by_cases hbn : b = n
      · subst hbn
        rw [hvn]
        intro hj
        rcases hb i hj with hb | hb
        · exact h.apartv _ _ _ _ e1 hg hab i hi hb
        · have := (h.at_ a z e1).lt_own hi; omega
      · rw [hvk b hbn]; exact h.apartv _ _ _ _ e1 (old b z' hz' hbn) hab i hi
/-- one file more -/
theorem FilesAt.more (h : FilesAt w F fs g v) (hg : getF n fs = none) {G : Nat → Prop} (ht : Touch G w w') (hG : ∀ k z, getF k fs = some z → ¬ G (g k) ∧ ∀ i, (v k).ownBlock = some i → ¬ G i) {nb : Nat} {v' : Value}
    (hy : FileAt w' nb v' y) (hnb : w.heap.size ≤ nb) (hb : ∀ i, v'.ownBlock = some i → w.heap.size ≤ i) : FilesAt w' (Ext F w w') (putF n y fs) (upd g n nb) (updv v n v') := by
  have old : ∀ k z, getF k (putF n y fs) = some z → k ≠ n → getF k fs = some z := fun k z hz hk => by rwa [getF_put_ne hk] at hz
  have hvn : updv v n v' n = v' := by simp [updv]
  have hvk : ∀ k, k ≠ n → updv v n v' k = v k := fun k hk => by simp [updv, hk]
  have hgn : upd g n nb n = nb := by simp [upd]
  have hgk : ∀ k, k ≠ n → upd g n nb k = g k := fun k hk => by simp [upd, hk]
  refine ⟨?_, ?_, ?_, ?_, ?_⟩
  · intro k z hz
    by_cases hk : k = n
    · subst hk; rw [getF_put_same] at hz; cases hz; rw [hvn, hgn]; exact hy
    · rw [hvk k hk, hgk k hk]; have hz' := old k z hz hk
      exact (h.at_ k z hz').touch ht (hG k z hz').1 (hG k z hz').2
  · intro k z hz
    by_cases hk : k = n
    · subst hk; rw [hgn]; exact .inr ⟨hnb, hy.row.lt⟩
    · rw [hgk k hk]; exact .inl (h.mem _ _ (old k z hz hk))
  · intro k z hz i hi
    by_cases hk : k = n
    · subst hk; rw [hvn] at hi; exact .inr ⟨hb i hi, hy.lt_own hi⟩
    · rw [hvk k hk] at hi; exact .inl (h.memv _ _ (old k z hz hk) i hi)
  · intro a b z z' hz hz' hab
    by_cases ha : a = n
    · subst ha
      have hbn : b ≠ a := fun e => hab e.symm
      rw [hgn, hgk b hbn]
      have := (h.at_ b z' (old b z' hz' hbn)).row.lt; omega
    · rw [hgk a ha]
      have e1 := old a z hz ha
      by_cases hbn : b = n
      · subst hbn; rw [hgn]; have := (h.at_ a z e1).row.lt; omega
      · rw [hgk b hbn]; exact h.apart _ _ _ _ e1 (old b z' hz' hbn) hab
  · intro a b z z' hz hz' hab i hi
    by_cases ha : a = n
    · subst ha
      have hbn : b ≠ a := fun e => hab e.symm
      rw [hvn] at hi; rw [hvk b hbn]
      intro hj
      have := (h.at_ b z' (old b z' hz' hbn)).lt_own hj; have := hb i hi; omega
    · have e1 := old a z hz ha
      rw [hvk a ha] at hi
      by_cases hbn : b = n
      · subst hbn; rw [hvn]; intro hj; have := (h.at_ a z e1).lt_own hi; have := hb i hj; omega
      · rw [hvk b hbn]; exact h.apartv _ _ _ _ e1 (old b z' hz' hbn) hab i hi
/-- one file less -/
theorem FilesAt.less (h : FilesAt w F fs g v) : FilesAt w F (delF n fs) g v := by
  have old : ∀ k z, getF k (delF n fs) = some z → getF k fs = some z := fun k z hz => by
    by_cases hk : k = n
    · subst hk; rw [getF_del_same] at hz; cases hz
    · rwa [getF_del_ne hk] at hz
  exact ⟨fun k z hz => h.at_ k z (old k z hz), fun k z hz => h.mem k z (old k z hz), fun k z hz => h.memv k z (old k z hz), fun a b z z' h1 h2 => h.apart a b z z' (old _ _ h1) (old _ _ h2), fun a b z z' h1 h2 => h.apartv a b z z' (old _ _ h1) (old _ _ h2)⟩
/-- files that nothing was done to -/
theorem FilesAt.stay (h : FilesAt w F fs g v) {G : Nat → Prop} (ht : Touch G w w') (hG : ∀ k z, getF k fs = some z → ¬ G (g k) ∧ ∀ i, (v k).ownBlock = some i → ¬ G i) : FilesAt w' F fs g v :=
  ⟨fun n f hf => (h.at_ n f hf).touch ht (hG n f hf).1 (hG n f hf).2, h.mem, h.memv, h.apart, h.apartv⟩
end
end Go.Proofs.Ytiagoaaldpajmaa
namespace Go.Proofs.Ytiagoaaldpajmaa
open Go.ChangeShapes Go.WideShapes Go.ChangeAt Go.RowKit Go.BigFrame Go.Maps Go.Sort
set_option linter.unusedVariables false

/-- append to a row of the call's own: where the result lies -/
theorem run_append_mine {P : Program} (w : World) (t ty e : TypeId) (i : TypeInfo) (z : Value) (ht : P.underlying t = some (.slice e)) (hi : P.info? e = some i) (hz : i.zero = some z)
    (hsize : i.size = 1) (hby : i.bytes = 1) (hzs : z.cells.size = 1) (v : Value) (n : Nat) (xs : List Value) (hown : w.ownsRow 0 e 1 v n xs)
    (a : Addr) (m c : Nat) (news : List Value) (hl : news.length = m) (hnews : ∀ j u, news[j]? = some u → w.cell? (a.add j) = some u) (h1 : ∀ u ∈ news, u.oneCell' = true) (hle : n + m ≤ 140737488355328) :
    ∃ v' w', (Builtin.append_ #[t, t] ty #[v, .slice (some a) m c]).run P w = .ok v' w' ∧ w'.ownsRow 0 e 1 v' (n + m) (xs ++ news) ∧ w.grownBy w' v.ownBlock ∧ (∀ k, v'.ownBlock = some k → v.ownBlock = some k ∨ w.heap.size ≤ k) := by
  obtain ⟨v', w', hr, h2, h3, _⟩ := run_append_own (P := P) w 0 t ty e i z 1 1 ht hi hz hsize hby hzs (by omega) v n xs hown a m c news (by omega) hnews h1 (by unfold maxLen; omega) (by omega) (Nat.zero_le _)
  refine ⟨v', w', hr, h2, h3, ?_⟩
  obtain ⟨hlen, ⟨rfl, rfl⟩ | ⟨g, cap, cur, rfl, hbg, hg, hnc, hcm, hcs, htake⟩⟩ := hown
  · have hown' : w.ownsRow w.heap.size e 1 (.slice none 0 0) 0 xs := ⟨hlen, .inl ⟨rfl, rfl⟩⟩
    obtain ⟨v2, w2, hr2, h22, _, _⟩ := run_append_own (P := P) w w.heap.size t ty e i z 1 1 ht hi hz hsize hby hzs (by omega) _ 0 xs hown' a m c news (by omega) hnews h1 (by unfold maxLen; omega) (by omega) (Nat.le_refl _)
    rw [hr] at hr2
    injection hr2 with e1 e2
    subst e1
    intro k hk
    exact .inr (h22.lt k hk).1
  · by_cases hroom : n + m ≤ cap
    · have hr2 := run_append_room (P := P) w t ty e i ht hi g n cap cur hg a m c news (by rw [hsize]; omega) hnews h1 hroom (by rw [hsize, hl, hcs]; omega)
      rw [hr] at hr2
      injection hr2 with e1 e2
      subst e1
      intro k hk
      exact .inl hk
    · have holds : ∀ j u, xs[j]? = some u → w.cell? ((⟨g, 0, none⟩ : Addr).add j) = some u := World.ownsRow.cells (v := .slice (some ⟨g, 0, none⟩) n cap) (n := n) (size := 1) (e := e) (base := 0) ⟨hlen, .inr ⟨g, cap, cur, rfl, hbg, hg, hnc, hcm, hcs, htake⟩⟩ (g := g) rfl
      have hr2 := run_append_grow (P := P) w t ty e i z ht hi hz ⟨g, 0, none⟩ n cap xs (by rw [hsize]; exact hlen) holds a m c news (by rw [hsize]; omega) hnews (by omega) (by omega) (growslice_fits (by omega) (by rw [hby]; omega))
      rw [hr] at hr2
      injection hr2 with e1 e2
      subst e1
      intro k hk
      injection hk with hk
      simp only at hk
      exact .inr (by omega)
theorem stage_append {P : Program} {C : World → Prop} {o : Oper} {a : Act} {w w' : World} {v' : Value} (s x : Operand) (t : TypeId) (ho : o.op = .call { callee := .builtin .append, args := #[s, x], argTypes := #[t, t] }) (v y : Value) (hs : a.eval s = v) (hx : a.eval x = y)
    (hr : (Builtin.append_ #[t, t] o.type #[v, y]).run P w = .ok v' w') (hC : C w') : Stage.at_ P o a C w v' := by
  unfold Stage.at_ execOp
  simp only [ho, resolve, invoke, builtin, Sem.run_bind, Sem.run_pure, Result.andThen_ok, List.map_toArray, List.map_cons, List.map_nil, hs, hx, hr, Stage.upon]
  exact ⟨trivial, hC⟩
/-- three worlds, one behind the other -/
def Seq3 (a b c : World) (b1 b2 : Bool) (w : World) : Prop :=
  match b1, b2 with
  | false, _ => w = a
  | true, false => w = b
  | true, true => w = c

def openF (n : Nm) (fs : Fs) : Fs := match getF n fs with | some _ => fs | none => putF n newF fs
def appF (x : Fil) (bs : List Nat) : Fil := ⟨x.b ++ bs, x.sure, x.made⟩
theorem openF_some {n : Nm} {fs : Fs} {x : Fil} (h : getF n fs = some x) : openF n fs = fs := by simp [openF, h]
theorem openF_none {n : Nm} {fs : Fs} (h : getF n fs = none) : openF n fs = putF n newF fs := by simp [openF, h]
theorem openF_len {n : Nm} {fs : Fs} : (openF n fs).length ≤ fs.length + 1 := by
  unfold openF; split
  · omega
  · exact putF_len

/-- a disk's files and their map, in memory -/
structure Held (w : World) (F : Nat → Prop) (p : Nat) (m : Option Nat) (fs : Fs) (g : Nm → Nat) (v : Nm → Value) : Prop where
  map : MapAt w m fs g
  files : FilesAt w F fs g v
  ok : OkFs fs
  memp : F p
  memm : ∀ b, m = some b → F b
section
variable {w w' : World} {F : Nat → Prop} {fs : Fs} {g : Nm → Nat} {v : Nm → Value} {n : Nm} {x y : Fil} {p r u dd f : Nat} {m : Option Nat} {o : Bool}
theorem Held.touch (h : Held w F p m fs g v) {G : Nat → Prop} (ht : Touch G w w') (hG : ∀ k, F k → ¬ G k) : Held w' F p m fs g v := ⟨h.map.touch ht (fun b hb => hG _ (h.memm b hb)), h.files.touch ht hG, h.ok, h.memp, h.memm⟩
theorem Held.mono {F' : Nat → Prop} (h : Held w F p m fs g v) (hF : ∀ k, F k → F' k) : Held w F' p m fs g v := ⟨h.map, h.files.mono hF, h.ok, hF _ h.memp, fun b hb => hF _ (h.memm b hb)⟩
/-- the disk's own block alone was written -/
theorem Held.own (h : Held w F p m fs g v) (hr : Row w p TD (dcells r u m dd o f)) (ht : Touch (· = p) w w') : Held w' F p m fs g v := by
  refine ⟨h.map.touch ht ?_, h.files.stay ht ?_, h.ok, h.memp, h.memm⟩
  · rintro b rfl e; exact h.map.ne_row hr e
  · intro k z hz
    have := h.files.pm hr h.map hz
    exact ⟨fun e => this.1 (.inl e), fun i hi e => this.2 i hi (.inl e)⟩
theorem opened_any (h : Row w p TD (dcells r u m dd o f)) (hH : Held w F p m fs g v) (s : ByteArray) (hs : 1 ≤ s.size ∧ s.size ≤ 128) (hl : fs.length ≤ 1000000000) :
    Calls Try.prog 38 #[.pointer (some ⟨p, 0, none⟩), .string s] w fun e w' => ∃ m' g' v' x, e = .returned (.pointer (some ⟨g' s.data.toList, 0, none⟩)) ∧ getF s.data.toList (openF s.data.toList fs) = some x ∧
      Row w' p TD (dcells r u m' dd o f) ∧ Held w' (Ext F w w') p m' (openF s.data.toList fs) g' v' ∧ Touch F w w' := by
  cases hg : getF s.data.toList fs with
  | some x =>
    refine (opened_old h hH.map s (by omega) hg).mono ?_
    rintro e w' ⟨rfl, rfl⟩
    rw [openF_some hg]
    exact ⟨m, g, v, x, rfl, hg, h, hH.mono fun k hk => .inl hk, Touch.refl _ _⟩
  | none =>
    refine (opened_new h hH.map s hs.2 hg hl).mono ?_
    rintro e w' ⟨b, nb, hmb, hnb, ht, rfl, hr', hM', hf'⟩
    rw [openF_none hg]
    have hG : ∀ k z, getF k fs = some z → ¬ PM p m (g k) ∧ ∀ i, (v k).ownBlock = some i → ¬ PM p m i := fun k z hz => hH.files.pm h hH.map hz
    have hfs := hH.files.more hg ht hG hf' hnb (by intro i hi; cases hi)
    refine ⟨some b, upd g s.data.toList nb, updv v s.data.toList (.slice none 0 0), newF, by simp [upd], getF_put_same, hr', ⟨hM', hfs, ?_, .inl hH.memp, ?_⟩, ?_⟩
    · exact hH.ok.add (by rw [Array.length_toList]; exact hs) (by simp [newF]) (by simp [newF])
    · intro b' hb'
      cases hb'
      rcases hmb with e | ⟨_, e⟩
      · exact .inl (hH.memm b e)
      · exact .inr ⟨e, World.ownsMap.lt (show w'.ownsMap Try.prog 9 refPtr b _ _ from hM')⟩
    · exact ht.mono (by rintro i (e | e); exact e ▸ hH.memp; exact hH.memm i e)
end
end Go.Proofs.Ytiagoaaldpajmaa
