/- Several texts in one: On2, Conv, Own. -/
import Derived.Test.YtiagoaaldpajmaaQn
import Derived.Test.YtiagoaaldpajmaaQa
import Derived.Test.YtiagoaaldpajmaaQe
import Derived.Laws.IdiomStrings
import Derived.Laws.Strings
namespace Go.Proofs.Ytiagoaaldpajmaa
open Go.ChangeShapes Go.WideShapes Go.ChangeAt Go.RowKit Go.BigFrame Go.Maps Go.Sort
set_option linter.unusedVariables false
section
variable {w w' : World} {F : Nat → Prop} {fs : Fs} {g : Nm → Nat} {v : Nm → Value} {n : Nm} {x y : Fil} {p r u dd f : Nat} {m : Option Nat} {o : Bool} {d : DM}
set_option maxRecDepth 100000 in
theorem on_still (h : Row w p TD (dcells r u m dd false f)) (A : Option Addr) (k c : Nat) :
    Calls Try.prog 16 #[.pointer (some ⟨p, 0, none⟩), .slice A k c] w fun e w' => e = .returned (.tuple #[]) ∧ Row w' p TD (dcells r u m dd false 0) ∧ Touch (· = p) w w' := by
  obtain ⟨h0, h1, h2, h3, h4, h5⟩ := drow h
  have hz := h.free
  have hr := h.put 5 (.int .u64 0)
  have HR := Lib.hid hr; clear hr h
  go_enter Try.func16, Try.ntmps16
  go_wp2_with fail
  refine bodyPost_ret (results_none rfl _ _ _) rfl ?_
  exact ⟨rfl, HR.out, (Touch.refl (· = p) w).setCell (p := ⟨p, 5, none⟩) (.inl rfl) _⟩
theorem onF_len (W : Nat → Int) : ∀ (l : Fs) (i : Nat), (onF W i l).length ≤ l.length
  | [], _ => by simp [onF]
  | p :: r, i => by
    have := onF_len W r (i + 1)
    have h2 : (stays p (W i)).length ≤ 1 := by unfold stays; split <;> simp
    simp only [onF, List.length_append, List.length_cons]; omega
/-- On, whatever it is told -/
theorem on_any (h : DiskAt w p d F m g v) (hFb : ∀ k, F k → k < w.heap.size) (A : Option Addr) (ks : List Int) (c : Nat) (hK : IntsAt w A ks) (hc : ks.length ≤ c) (hcm : c ≤ 9223372036854775807)
    (hKF : ∀ ad, A = some ad → 0 < ks.length → ¬ F ad.block) (hd : d.deeds ≤ 1000000000) :
    Calls Try.prog 16 #[.pointer (some ⟨p, 0, none⟩), .slice A ks.length c] w fun e w' => e = .returned (.tuple #[]) ∧ IsDisk w' p (onD d ks) (Ext F w w') ∧ Touch F w w' := by
  unfold onD
  have hfew := h.few
  cases ho : d.off with
  | true =>
    have hrow := h.row
    rw [ho] at hrow
    refine (on_gone hrow h.held hFb A ks c hK hc hcm hKF (Nat.le_trans h.used h.room) (by omega)).mono ?_
    rintro e w' ⟨rfl, v', h1, h2, h3⟩
    have hu := usedF_on (W := wishOf ks) (fs := d.fs) (fun q hq => h.ok.sure q.1 q.2 (getF_of_mem h.ok.sort hq)) 0
    refine ⟨rfl, ⟨m, g, v', h1, h2.map, h2.files, h2.memp, h2.memm, h2.ok, Nat.le_trans hu h.used, h.room, Nat.le_trans (onF_len _ _ _) h.few, by simp⟩, h3⟩
  | false =>
    have hrow := h.row
    rw [ho] at hrow
    refine (on_still hrow A ks.length c).mono ?_
    rintro e w' ⟨rfl, hr, ht⟩
    have hH := h.held.own h.row ht
    refine ⟨rfl, ⟨m, g, v, by rw [show dcells d.room (usedF d.fs) m d.deeds false 0 = dcells d.room (usedF d.fs) m d.deeds false 0 from rfl] at hr; simpa [ho] using hr, hH.map, hH.files.mono fun k hk => .inl hk, .inl hH.memp, fun b hb => .inl (hH.memm b hb), hH.ok, h.used, h.room, h.few, by simp⟩, ht.mono ?_⟩
    rintro i rfl; exact h.memp
/-- Crash -/
def crashD (d : DM) : DM := { d with off := true, fuse := 0 }
theorem crash_disk (h : DiskAt w p d F m g v) :
    Calls Try.prog 15 #[.pointer (some ⟨p, 0, none⟩)] w fun e w' => e = .returned (.tuple #[]) ∧ DiskAt w' p (crashD d) F m g v ∧ Touch F w w' ∧ w'.heap.size = w.heap.size := by
  refine (crash_any h.row).mono ?_
  rintro e w' ⟨rfl, rfl⟩
  have ht : Touch (· = p) w ((w.setCell ⟨p, 4, none⟩ (.bool true)).setCell ⟨p, 5, none⟩ (.int .u64 0)) := ((Touch.refl (· = p) w).setCell (p := ⟨p, 4, none⟩) (.inl rfl) _).setCell (p := ⟨p, 5, none⟩) (.inl rfl) _
  have hH := h.held.own h.row ht
  refine ⟨rfl, ⟨(h.row.put 4 (.bool true)).put 5 (.int .u64 0), hH.map, hH.files, hH.memp, hH.memm, hH.ok, h.used, h.room, h.few, by simp [crashD]⟩, ht.mono ?_, by simp⟩
  rintro i rfl; exact h.memp
/-- Fail -/
def failD (d : DM) (n : Int) : DM := { d with fuse := (n + 1).toNat }
theorem fail_disk (h : DiskAt w p d F m g v) (n : Int) (hn : -9223372036854775808 ≤ n ∧ n ≤ 9223372036854775807) :
    Calls Try.prog 25 #[.pointer (some ⟨p, 0, none⟩), .int .i64 n] w fun e w' => e = .returned (.tuple #[]) ∧ DiskAt w' p (failD d n) F m g v ∧ Touch F w w' := by
  refine (fail_any n h.row hn).mono ?_
  rintro e w' ⟨rfl, hr, ht⟩
  have hH := h.held.own h.row ht
  refine ⟨rfl, ⟨hr, hH.map, hH.files, hH.memp, hH.memm, hH.ok, h.used, h.room, h.few, by show (n + 1).toNat ≤ _; omega⟩, ht.mono ?_⟩
  rintro i rfl; exact h.memp
/-- New -/
def newD (q : Int) : DM := ⟨(max q 0).toNat, [], 0, false, 0⟩
theorem new_disk (q : Int) (w : World) (hq : -9223372036854775808 ≤ q ∧ q ≤ 9223372036854775807) :
    Calls Try.prog 11 #[.int .i64 q] w fun e w' => e = .returned (.pointer (some ⟨w.heap.size, 0, none⟩)) ∧ DiskAt w' w.heap.size (newD q) (· = w.heap.size) none (fun _ => 0) (fun _ => .slice none 0 0) ∧ Below w.heap.size w w' ∧ w'.heap.size = w.heap.size + 1 := by
  refine (new_any q w hq).mono ?_
  rintro e w' ⟨rfl, rfl⟩
  refine ⟨rfl, ⟨Row.made w TD _, rfl, ⟨?_, ?_, ?_, ?_, ?_⟩, rfl, by simp, ⟨List.Pairwise.nil, ?_, ?_, ?_⟩, by simp [newD, usedF], by show (max q 0).toNat ≤ _; omega, by simp [newD], by simp [newD]⟩, (Below.refl _ _).alloc (Nat.le_refl _) _, by simp⟩
  all_goals
    intros
    simp [newD, getF] at *
end
end Go.Proofs.Ytiagoaaldpajmaa
namespace Go.Proofs.Ytiagoaaldpajmaa
open Go.RowKit
/-- a string's bytes -/
def bl (b : ByteArray) : List Nat := b.data.toList.map UInt8.toNat
theorem bl_len (b : ByteArray) : (bl b).length = b.size := by unfold bl; rw [List.length_map, Array.length_toList]; rfl
theorem bl_lt (b : ByteArray) : ∀ x ∈ bl b, x < 256 := by
  intro x hx
  obtain ⟨u, _, rfl⟩ := List.mem_map.1 hx
  exact u.toNat_lt
theorem strOf_bl (b : ByteArray) : strOf (bl b) = b := by
  apply ByteArray.ext
  apply Array.ext'
  simp only [strOf, strOfNums_data, bl, List.map_map]
  conv => rhs; rw [← List.map_id b.data.toList]
  apply List.map_congr_left
  intro u _
  simp
theorem bl_strOf (xs : List Nat) (h : ∀ x ∈ xs, x < 256) : bl (strOf xs) = xs := by
  unfold bl
  simp only [strOf, strOfNums_data, List.map_map]
  conv => rhs; rw [← List.map_id xs]
  apply List.map_congr_left
  intro x hx
  have := h x hx
  simp; omega
theorem strOf_size (xs : List Nat) : (strOf xs).size = xs.length := by
  show (strOf xs).data.size = _
  have : (strOf xs).data.toList.length = xs.length := by simp only [strOf, strOfNums_data, List.length_map]
  simpa using this
theorem strOf_append (xs ys : List Nat) : strOf (xs ++ ys) = strOf xs ++ strOf ys := by
  apply ByteArray.ext
  apply Array.ext'
  simp [strOf, strOfNums_data]
theorem str_eql (a b : ByteArray) : (a.toList == b.toList) = decide (a = b) := by
  rw [ByteArray.toList_eq, ByteArray.toList_eq, Bool.eq_iff_iff, beq_iff_eq, decide_eq_true_iff]
  exact ⟨fun h => ByteArray.ext (Array.ext' h), fun h => by rw [h]⟩
section
variable {P : Program} {src dst e : TypeId}
theorem run_tobytes (w : World) (s : ByteArray) (hs : P.underlying src = some .string) (hd : P.underlying dst = some (.slice e)) (he : P.underlying e = some (.int .u8)) (hm : s.size ≤ maxLen) :
    ∃ c w', (convert src dst (.string s)).run P w = .ok (.slice (some ⟨w.heap.size, 0, none⟩) s.size c) w' ∧ Bytes w' (some ⟨w.heap.size, 0, none⟩) (bl s) ∧ Below w.heap.size w w' ∧ s.size ≤ c ∧ c ≤ maxLen ∧ w.heap.size < w'.heap.size := by
  refine ⟨_, _, run_bytes_of_string w src dst e s hs hd he, ⟨bl_lt s, fun _ => ⟨_, rfl, by simp, fun j x hj => ?_⟩⟩, (Below.refl _ _).drew.alloc (Nat.le_refl _) _, grownCap_ge _ _ _ _, grownCap_le_maxLen _ _ _ _ hm, by simp⟩
  have hj2 : j < s.size := by rw [← bl_len]; exact (List.getElem?_eq_some_iff.1 hj).1
  rw [add_zero_off, cell_of_row _ w.heap.size j _ e _ (heap_alloc_new w.drew _)]
  unfold bytesRow
  have h1 : j < s.data.size := hj2
  have hx : x = (s.data[j]).toNat := by
    unfold bl at hj
    rw [List.getElem?_map] at hj
    rw [Array.getElem?_toList, Array.getElem?_eq_getElem h1] at hj
    simpa using hj.symm
  subst hx
  rw [Array.getElem?_append_left (by simpa using h1), Array.getElem?_map, Array.getElem?_eq_getElem h1]
  rfl
theorem wpList_tobytes {w : World} {ops : Array Oper} {rest : List Oper} {o : Oper} {a : Act} {Q : Exit → Act → World → Prop} (hgd : o.guard = none) (x : Operand) (ho : o.op = .convert src dst x)
    (hs : P.underlying src = some .string) (hd : P.underlying dst = some (.slice e)) (he : P.underlying e = some (.int .u8)) (s : ByteArray) (hx : a.eval x = .string s) (hm : s.size ≤ maxLen)
    (h : ∀ c w', Bytes w' (some ⟨w.heap.size, 0, none⟩) (bl s) → Below w.heap.size w w' → s.size ≤ c → c ≤ maxLen → w.heap.size < w'.heap.size → wpList P ops Q rest (a.put o.dst (.slice (some ⟨w.heap.size, 0, none⟩) s.size c)) w') : wpList P ops Q (o :: rest) a w := by
  obtain ⟨c, w', hr, h1, h2, h3, h4, h5⟩ := run_tobytes (P := P) w s hs hd he hm
  refine wpList_plain hgd fun K hK => ?_
  unfold Oper.wp execOp
  simp only [ho, hx, Sem.run_bind, hr, Result.andThen_ok, Sem.run_pure, Oper.upon]
  exact hK _ _ (h c w' h1 h2 h3 h4 h5)
/-- s + t -/
theorem run_add_str (w : World) (t : TypeId) (x y : Operand) (a b : ByteArray) (ht : P.underlying t = some .string) (h : a.size + b.size ≤ 9223372036854775807) :
    (do eqGuard .add t x y (.string a) (.string b); binOp .add t (.string a) (.string b) : Sem Value).run P w = .ok (.string (a ++ b)) w := by
  simp [go_sem, eqGuard, binOp, run_underlying ht, Op.stringOp]
  omega
end
end Go.Proofs.Ytiagoaaldpajmaa
namespace Go.Proofs.Ytiagoaaldpajmaa
open Go.ChangeShapes Go.WideShapes Go.ChangeAt Go.RowKit Go.BigFrame Go.Maps Go.Sort
set_option linter.unusedVariables false
/-- made since w0, inside F -/
structure OwnF (w0 w : World) (p : Nat) (d : DM) (F : Nat → Prop) : Prop where
  disk : IsDisk w p d F
  mine : ∀ k, F k → w0.heap.size ≤ k ∧ k < w.heap.size
  below : Below w0.heap.size w0 w
section
variable {w0 w w' : World} {F G : Nat → Prop} {p : Nat} {d d' : DM}
theorem OwnF.stay (h : OwnF w0 w p d F) (ht : Touch G w w') (hG : ∀ k, F k → ¬ G k) (hb : ∀ k, G k → w0.heap.size ≤ k) : OwnF w0 w' p d F := by
  obtain ⟨⟨m, g, v, hd⟩, h2, h3⟩ := h
  exact ⟨⟨m, g, v, hd.touch ht hG⟩, fun k hk => ⟨(h2 k hk).1, Nat.lt_of_lt_of_le (h2 k hk).2 ht.size⟩, h3.trans (ht.below hb h3.size)⟩
theorem OwnF.made (h : OwnF w0 w p d F) (hb : Below w.heap.size w w') : OwnF w0 w' p d F := h.stay (Touch.of_below (F := fun _ => False) hb) (by simp) (by simp)
theorem OwnF.alloc (h : OwnF w0 w p d F) (o : Obj) : OwnF w0 (w.alloc o) p d F := h.made ((Below.refl _ _).alloc (Nat.le_refl _) o)
theorem OwnF.next (h : OwnF w0 w p d F) (hd : IsDisk w' p d' (Ext F w w')) (ht : Touch F w w') : OwnF w0 w' p d' (Ext F w w') :=
  ⟨hd, fun k hk => by
    rcases hk with hk | hk
    · exact ⟨(h.mine k hk).1, Nat.lt_of_lt_of_le (h.mine k hk).2 ht.size⟩
    · exact ⟨Nat.le_trans h.below.size hk.1, hk.2⟩, h.below.trans (ht.below (fun i hi => (h.mine i hi).1) h.below.size)⟩
theorem OwnF.same (h : OwnF w0 w p d F) {m : Option Nat} {g : Nm → Nat} {v : Nm → Value} (hd : DiskAt w' p d' F m g v) (ht : Touch F w w') : OwnF w0 w' p d' (Ext F w w') :=
  h.next ⟨m, g, v, hd.mono fun k hk => .inl hk⟩ ht
theorem own_new (q : Int) (hb : Below w0.heap.size w0 w) (hq : -9223372036854775808 ≤ q ∧ q ≤ 9223372036854775807) :
    Calls Try.prog 11 #[.int .i64 q] w fun e w' => e = .returned (.pointer (some ⟨w.heap.size, 0, none⟩)) ∧ OwnF w0 w' w.heap.size (newD q) (· = w.heap.size) ∧ Below w.heap.size w w' := by
  refine (new_disk q w hq).mono ?_
  rintro e w' ⟨rfl, hd, hbl, hs⟩
  exact ⟨rfl, ⟨⟨_, _, _, hd⟩, by rintro k rfl; exact ⟨hb.size, by omega⟩, hb.trans (hbl.mono hb.size)⟩, hbl⟩
theorem own_append (h : OwnF w0 w p d F) (s : ByteArray) (A : Addr) (bs : List Nat) (c : Nat) (hB : Bytes w (some A) bs) (hFA : 0 < bs.length → ¬ F A.block) (hs : s.size ≤ 9223372036854775807) (hb : bs.length ≤ 1000000000) (hd : d.deeds ≤ 1000000000) :
    Calls Try.prog 14 #[.pointer (some ⟨p, 0, none⟩), .string s, .slice (some A) bs.length c] w fun e w' => e = .returned (.int .i64 (appE d s bs.length)) ∧ OwnF w0 w' p (appD d s bs) (Ext F w w') ∧ Touch F w w' := by
  obtain ⟨m, g, v, hD⟩ := h.disk
  refine (append_any hD (fun k hk => (h.mine k hk).2) s A bs c hB hFA hs hb hd).mono ?_
  rintro e w' ⟨rfl, h1, h2⟩
  exact ⟨rfl, h.next h1 h2, h2⟩
theorem own_sync (h : OwnF w0 w p d F) (s : ByteArray) (hs : s.size ≤ 9223372036854775807) (hd : d.deeds ≤ 1000000000) :
    Calls Try.prog 20 #[.pointer (some ⟨p, 0, none⟩), .string s] w fun e w' => e = .returned (.int .i64 (syncE d s)) ∧ OwnF w0 w' p (syncD d s) (Ext F w w') ∧ Touch F w w' := by
  obtain ⟨m, g, v, hD⟩ := h.disk
  refine (sync_any hD s hs (fun k hk => (h.mine k hk).2) hd).mono ?_
  rintro e w' ⟨rfl, h1, h2⟩
  exact ⟨rfl, h.next h1 h2, h2⟩
theorem own_crash (h : OwnF w0 w p d F) :
    Calls Try.prog 15 #[.pointer (some ⟨p, 0, none⟩)] w fun e w' => e = .returned (.tuple #[]) ∧ OwnF w0 w' p (crashD d) (Ext F w w') ∧ Touch F w w' := by
  obtain ⟨m, g, v, hD⟩ := h.disk
  refine (crash_disk hD).mono ?_
  rintro e w' ⟨rfl, h1, h2, _⟩
  exact ⟨rfl, h.same h1 h2, h2⟩
theorem own_fail (h : OwnF w0 w p d F) (n : Int) (hn : -9223372036854775808 ≤ n ∧ n ≤ 9223372036854775807) :
    Calls Try.prog 25 #[.pointer (some ⟨p, 0, none⟩), .int .i64 n] w fun e w' => e = .returned (.tuple #[]) ∧ OwnF w0 w' p (failD d n) (Ext F w w') ∧ Touch F w w' := by
  obtain ⟨m, g, v, hD⟩ := h.disk
  refine (fail_disk hD n hn).mono ?_
  rintro e w' ⟨rfl, h1, h2⟩
  exact ⟨rfl, h.same h1 h2, h2⟩
theorem own_on (h : OwnF w0 w p d F) (A : Option Addr) (ks : List Int) (c : Nat) (hK : IntsAt w A ks) (hc : ks.length ≤ c) (hcm : c ≤ 9223372036854775807) (hKF : ∀ ad, A = some ad → 0 < ks.length → ¬ F ad.block) (hd : d.deeds ≤ 1000000000) :
    Calls Try.prog 16 #[.pointer (some ⟨p, 0, none⟩), .slice A ks.length c] w fun e w' => e = .returned (.tuple #[]) ∧ OwnF w0 w' p (onD d ks) (Ext F w w') ∧ Touch F w w' := by
  obtain ⟨m, g, v, hD⟩ := h.disk
  refine (on_any hD (fun k hk => (h.mine k hk).2) A ks c hK hc hcm hKF hd).mono ?_
  rintro e w' ⟨rfl, h1, h2⟩
  exact ⟨rfl, h.next h1 h2, h2⟩
theorem own_read (h : OwnF w0 w p d F) (s : ByteArray) (hs : s.size ≤ 9223372036854775807) :
    Calls Try.prog 21 #[.pointer (some ⟨p, 0, none⟩), .string s] w fun e w' => ∃ A c, e = .returned (.tuple #[.slice A (readB d s).length c, .int .i64 (findE d s [])]) ∧ Bytes w' A (readB d s) ∧ (∀ ad, A = some ad → w.heap.size ≤ ad.block) ∧ OwnF w0 w' p d F ∧ Below w.heap.size w w' := by
  obtain ⟨m, g, v, hD⟩ := h.disk
  refine (read_any hD s hs).mono ?_
  rintro e w' ⟨V, rfl, hown, h1, h2⟩
  have hlt : ∀ x ∈ readB d s, x < 256 := by
    intro x hx
    unfold readB at hx
    split at hx
    · split at hx
      · rename_i y hy; exact (hD.files.at_ _ _ hy).lt x hx
      · simp at hx
    · simp at hx
  obtain ⟨A, c, rfl, hB, _⟩ := Bytes.of_own hown hlt
  refine ⟨A, c, rfl, hB, ?_, h.made h2, h2⟩
  rintro ad rfl
  exact (hown.lt ad.block rfl).1
theorem own_names (h : OwnF w0 w p d F) (hd : d.deeds ≤ 1000000000) :
    Calls Try.prog 28 #[.pointer (some ⟨p, 0, none⟩)] w fun e w' => ∃ A c, e = .returned (.slice A d.fs.length c) ∧ OwnF w0 w' p d F ∧ Below w.heap.size w w' ∧ w'.ownsRow w.heap.size 9 1 (.slice A d.fs.length c) d.fs.length (nameRow d.fs) := by
  obtain ⟨m, g, v, hD⟩ := h.disk
  refine (names_any hD.row hD.map hD.ok.sort (by have := hD.few; omega)).mono ?_
  rintro e w' ⟨V, rfl, hown, hb⟩
  obtain ⟨A, c, rfl⟩ : ∃ A c, V = .slice A d.fs.length c := by
    obtain ⟨_, ⟨e1, e2⟩ | ⟨g9, cap9, cur9, e1, _⟩⟩ := id hown
    · exact ⟨none, 0, by rw [e1, e2]⟩
    · exact ⟨_, _, e1⟩
  exact ⟨A, c, rfl, h.made hb, hb, hown⟩
/-- bytes that were typed -/
theorem bytes_lit (w : World) (xs : List Nat) (hx : ∀ x ∈ xs, x < 256) : Bytes (w.alloc (.cells (u8s xs).toArray 5)) (some ⟨w.heap.size, 0, none⟩) xs := Bytes.of_row (Row.made w 5 (u8s xs)) hx
theorem ints_lit (w : World) (z : Int) (hz : -9223372036854775808 ≤ z ∧ z ≤ 9223372036854775807) : IntsAt (w.alloc (.cells #[.int .i64 z] 3)) (some ⟨w.heap.size, 0, none⟩) [z] :=
  ⟨by simpa using hz, fun _ => ⟨w.heap.size, 0, rfl, by simp, fun j y hj => by
    cases j with
    | zero => simp at hj; subst hj; exact (Row.made w 3 [.int .i64 z]).cell 0
    | succ j => simp at hj⟩⟩
theorem ints_none (w : World) : IntsAt w none [] := ⟨by simp, by simp⟩
end
end Go.Proofs.Ytiagoaaldpajmaa
