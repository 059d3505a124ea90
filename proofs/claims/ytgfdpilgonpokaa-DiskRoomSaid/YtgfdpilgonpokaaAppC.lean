/- What an Append does: the file opened, bytes put behind it. -/
import Derived.Test.YtgfdpilgonpokaaFile
namespace Go.Proofs.Ytgfdpilgonpokaa
open Go.ChangeShapes Go.WideShapes Go.ChangeAt Go.RowKit Go.BigFrame Go.Maps Go.Sort
set_option linter.unusedVariables false

/-- append to a row of the call's own: where the result lies -/
theorem run_append_mine {P : Program} (w : World) (t ty e : TypeId) (i : TypeInfo) (z : Value) (ht : P.underlying t = some (.slice e)) (hi : P.info? e = some i) (hz : i.zero = some z)
    (hsize : i.size = 1) (hby : i.bytes = 1) (hzs : z.cells.size = 1) (v : Value) (n : Nat) (xs : List Value) (hown : w.ownsRow 0 e 1 v n xs)
    (a : Addr) (m c : Nat) (news : List Value) (hl : news.length = m) (hnews : ∀ j u, news[j]? = some u → w.cell? (a.add j) = some u) (h1 : ∀ u ∈ news, u.oneCell' = true) (hle : n + m ≤ 140737488355328) :
    ∃ v' w', (Builtin.append_ #[t, t] ty #[v, .slice (some a) m c]).run P w = .ok v' w' ∧ w'.ownsRow 0 e 1 v' (n + m) (xs ++ news) ∧ w.grownBy w' v.ownBlock ∧ (∀ k, v'.ownBlock = some k → v.ownBlock = some k ∨ w.heap.size ≤ k) := by
  obtain ⟨v', w', hr, h2, h3, _⟩ := run_append_own (P := P) w 0 t ty e i z 1 1 ht hi hz hsize hby hzs (by omega) v n xs hown a m c news (by omega) hnews h1 (by unfold maxLen; omega) (by omega) (Nat.zero_le _)
  refine ⟨v', w', hr, h2, h3, ?_⟩
  obtain ⟨hlen, ⟨rfl, rfl⟩ | ⟨g, cap, cur, rfl, hbg, hg, hnc, hcm, hcs, htake⟩⟩ := hown
  · have hown' : w.ownsRow w.heap.size e 1 (.slice none 0 0) 0 xs := ⟨hlen, .inl ⟨rfl, rfl⟩⟩
    obtain ⟨v2, w2, hr2, h22, _, _⟩ := run_append_own (P := P) w w.heap.size t ty e i z 1 1 ht hi hz hsize hby hzs (by omega) _ 0 xs hown' a m c news (by omega) hnews h1 (by unfold maxLen; omega) (by omega) (Nat.le_refl _)
    rw [hr] at hr2
    injection hr2 with e1 e2
    subst e1
    intro k hk
    exact .inr (h22.lt k hk).1
  · by_cases hroom : n + m ≤ cap
    · have hr2 := run_append_room (P := P) w t ty e i ht hi g n cap cur hg a m c news (by rw [hsize]; omega) hnews h1 hroom (by rw [hsize, hl, hcs]; omega)
      rw [hr] at hr2
      injection hr2 with e1 e2
      subst e1
      intro k hk
      exact .inl hk
    · have holds : ∀ j u, xs[j]? = some u → w.cell? ((⟨g, 0, none⟩ : Addr).add j) = some u := World.ownsRow.cells (v := .slice (some ⟨g, 0, none⟩) n cap) (n := n) (size := 1) (e := e) (base := 0) ⟨hlen, .inr ⟨g, cap, cur, rfl, hbg, hg, hnc, hcm, hcs, htake⟩⟩ (g := g) rfl
      have hr2 := run_append_grow (P := P) w t ty e i z ht hi hz ⟨g, 0, none⟩ n cap xs (by rw [hsize]; exact hlen) holds a m c news (by rw [hsize]; omega) hnews (by omega) (by omega) (growslice_fits (by omega) (by rw [hby]; omega))
      rw [hr] at hr2
      injection hr2 with e1 e2
      subst e1
      intro k hk
      injection hk with hk
      simp only at hk
      exact .inr (by omega)
theorem stage_append {P : Program} {C : World → Prop} {o : Oper} {a : Act} {w w' : World} {v' : Value} (s x : Operand) (t : TypeId) (ho : o.op = .call { callee := .builtin .append, args := #[s, x], argTypes := #[t, t] }) (v y : Value) (hs : a.eval s = v) (hx : a.eval x = y)
    (hr : (Builtin.append_ #[t, t] o.type #[v, y]).run P w = .ok v' w') (hC : C w') : Stage.at_ P o a C w v' := by
  unfold Stage.at_ execOp
  simp only [ho, resolve, invoke, builtin, Sem.run_bind, Sem.run_pure, Result.andThen_ok, List.map_toArray, List.map_cons, List.map_nil, hs, hx, hr, Stage.upon]
  exact ⟨trivial, hC⟩
/-- three worlds, one behind the other -/
def Seq3 (a b c : World) (b1 b2 : Bool) (w : World) : Prop :=
  match b1, b2 with
  | false, _ => w = a
  | true, false => w = b
  | true, true => w = c

def openF (n : Nm) (fs : Fs) : Fs := match getF n fs with | some _ => fs | none => putF n newF fs
def appF (x : Fil) (bs : List Nat) : Fil := ⟨x.b ++ bs, x.sure, x.made⟩
theorem openF_some {n : Nm} {fs : Fs} {x : Fil} (h : getF n fs = some x) : openF n fs = fs := by simp [openF, h]
theorem openF_none {n : Nm} {fs : Fs} (h : getF n fs = none) : openF n fs = putF n newF fs := by simp [openF, h]
theorem openF_len {n : Nm} {fs : Fs} : (openF n fs).length ≤ fs.length + 1 := by
  unfold openF; split
  · omega
  · exact putF_len

/-- a disk's files and their map, in memory -/
structure Held (w : World) (F : Nat → Prop) (p : Nat) (m : Option Nat) (fs : Fs) (g : Nm → Nat) (v : Nm → Value) : Prop where
  map : MapAt w m fs g
  files : FilesAt w F fs g v
  ok : OkFs fs
  memp : F p
  memm : ∀ b, m = some b → F b
section
variable {w w' : World} {F : Nat → Prop} {fs : Fs} {g : Nm → Nat} {v : Nm → Value} {n : Nm} {x y : Fil} {p r u dd f : Nat} {m : Option Nat} {o : Bool}
theorem Held.touch (h : Held w F p m fs g v) {G : Nat → Prop} (ht : Touch G w w') (hG : ∀ k, F k → ¬ G k) : Held w' F p m fs g v := ⟨h.map.touch ht (fun b hb => hG _ (h.memm b hb)), h.files.touch ht hG, h.ok, h.memp, h.memm⟩
theorem Held.mono {F' : Nat → Prop} (h : Held w F p m fs g v) (hF : ∀ k, F k → F' k) : Held w F' p m fs g v := ⟨h.map, h.files.mono hF, h.ok, hF _ h.memp, fun b hb => hF _ (h.memm b hb)⟩
/-- the disk's own block alone was written -/
theorem Held.own (h : Held w F p m fs g v) (hr : Row w p TD (dcells r u m dd o f)) (ht : Touch (· = p) w w') : Held w' F p m fs g v := by
  refine ⟨h.map.touch ht ?_, h.files.stay ht ?_, h.ok, h.memp, h.memm⟩
  · rintro b rfl e; exact h.map.ne_row hr e
  · intro k z hz
    have := h.files.pm hr h.map hz
    exact ⟨fun e => this.1 (.inl e), fun i hi e => this.2 i hi (.inl e)⟩
theorem opened_any (h : Row w p TD (dcells r u m dd o f)) (hH : Held w F p m fs g v) (s : ByteArray) (hs : 1 ≤ s.size ∧ s.size ≤ 128) (hl : fs.length ≤ 1000000000) :
    Calls Try.prog 38 #[.pointer (some ⟨p, 0, none⟩), .string s] w fun e w' => ∃ m' g' v' x, e = .returned (.pointer (some ⟨g' s.data.toList, 0, none⟩)) ∧ getF s.data.toList (openF s.data.toList fs) = some x ∧
      Row w' p TD (dcells r u m' dd o f) ∧ Held w' (Ext F w w') p m' (openF s.data.toList fs) g' v' ∧ Touch F w w' := by
  cases hg : getF s.data.toList fs with
  | some x =>
    refine (opened_old h hH.map s (by omega) hg).mono ?_
    rintro e w' ⟨rfl, rfl⟩
    rw [openF_some hg]
    exact ⟨m, g, v, x, rfl, hg, h, hH.mono fun k hk => .inl hk, Touch.refl _ _⟩
  | none =>
    refine (opened_new h hH.map s hs.2 hg hl).mono ?_
    rintro e w' ⟨b, nb, hmb, hnb, ht, rfl, hr', hM', hf'⟩
    rw [openF_none hg]
    have hG : ∀ k z, getF k fs = some z → ¬ PM p m (g k) ∧ ∀ i, (v k).ownBlock = some i → ¬ PM p m i := fun k z hz => hH.files.pm h hH.map hz
    have hfs := hH.files.more hg ht hG hf' hnb (by intro i hi; cases hi)
    refine ⟨some b, upd g s.data.toList nb, updv v s.data.toList (.slice none 0 0), newF, by simp [upd], getF_put_same, hr', ⟨hM', hfs, ?_, .inl hH.memp, ?_⟩, ?_⟩
    · exact hH.ok.add (by rw [Array.length_toList]; exact hs) (by simp [newF]) (by simp [newF])
    · intro b' hb'
      cases hb'
      rcases hmb with e | ⟨_, e⟩
      · exact .inl (hH.memm b e)
      · exact .inr ⟨e, World.ownsMap.lt (show w'.ownsMap Try.prog 9 refPtr b _ _ from hM')⟩
    · exact ht.mono (by rintro i (e | e); exact e ▸ hH.memp; exact hH.memm i e)
end
end Go.Proofs.Ytgfdpilgonpokaa
