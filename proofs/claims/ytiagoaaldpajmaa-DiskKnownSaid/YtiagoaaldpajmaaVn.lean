/- Several texts in one: Own, Ref, RefAt. -/
import Derived.Test.YtiagoaaldpajmaaVm
namespace Go.Proofs.Ytiagoaaldpajmaa
open Go.ChangeShapes Go.WideShapes Go.ChangeAt Go.RowKit Go.BigFrame Go.Maps Go.Sort
set_option linter.unusedVariables false
/-- made since w0, inside F -/
structure OwnF (w0 w : World) (p : Nat) (d : DM) (F : Nat → Prop) : Prop where
  disk : IsDisk w p d F
  mine : ∀ k, F k → w0.heap.size ≤ k ∧ k < w.heap.size
  below : Below w0.heap.size w0 w
section
variable {w0 w w' : World} {F G : Nat → Prop} {p : Nat} {d d' : DM}
theorem OwnF.stay (h : OwnF w0 w p d F) (ht : Touch G w w') (hG : ∀ k, F k → ¬ G k) (hb : ∀ k, G k → w0.heap.size ≤ k) : OwnF w0 w' p d F := by
  obtain ⟨⟨m, g, v, hd⟩, h2, h3⟩ := h
  exact ⟨⟨m, g, v, hd.touch ht hG⟩, fun k hk => ⟨(h2 k hk).1, Nat.lt_of_lt_of_le (h2 k hk).2 ht.size⟩, h3.trans (ht.below hb h3.size)⟩
theorem OwnF.made (h : OwnF w0 w p d F) (hb : Below w.heap.size w w') : OwnF w0 w' p d F := h.stay (Touch.of_below (F := fun _ => False) hb) (by simp) (by simp)
theorem OwnF.alloc (h : OwnF w0 w p d F) (o : Obj) : OwnF w0 (w.alloc o) p d F := h.made ((Below.refl _ _).alloc (Nat.le_refl _) o)
theorem OwnF.next (h : OwnF w0 w p d F) (hd : IsDisk w' p d' (Ext F w w')) (ht : Touch F w w') : OwnF w0 w' p d' (Ext F w w') :=
  ⟨hd, fun k hk => by
    rcases hk with hk | hk
    · exact ⟨(h.mine k hk).1, Nat.lt_of_lt_of_le (h.mine k hk).2 ht.size⟩
    · exact ⟨Nat.le_trans h.below.size hk.1, hk.2⟩, h.below.trans (ht.below (fun i hi => (h.mine i hi).1) h.below.size)⟩
theorem OwnF.same (h : OwnF w0 w p d F) {m : Option Nat} {g : Nm → Nat} {v : Nm → Value} (hd : DiskAt w' p d' F m g v) (ht : Touch F w w') : OwnF w0 w' p d' (Ext F w w') :=
  h.next ⟨m, g, v, hd.mono fun k hk => .inl hk⟩ ht
theorem own_new (q : Int) (hb : Below w0.heap.size w0 w) (hq : -9223372036854775808 ≤ q ∧ q ≤ 9223372036854775807) :
    Calls Try.prog 11 #[.int .i64 q] w fun e w' => e = .returned (.pointer (some ⟨w.heap.size, 0, none⟩)) ∧ OwnF w0 w' w.heap.size (newD q) (· = w.heap.size) ∧ Below w.heap.size w w' := by
  refine (new_disk q w hq).mono ?_
  rintro e w' ⟨rfl, hd, hbl, hs⟩
  exact ⟨rfl, ⟨⟨_, _, _, hd⟩, by rintro k rfl; exact ⟨hb.size, by omega⟩, hb.trans (hbl.mono hb.size)⟩, hbl⟩
theorem own_append (h : OwnF w0 w p d F) (s : ByteArray) (A : Addr) (bs : List Nat) (c : Nat) (hB : Bytes w (some A) bs) (hFA : 0 < bs.length → ¬ F A.block) (hs : s.size ≤ 9223372036854775807) (hb : bs.length ≤ 1000000000) (hd : d.deeds ≤ 1000000000) :
    Calls Try.prog 14 #[.pointer (some ⟨p, 0, none⟩), .string s, .slice (some A) bs.length c] w fun e w' => e = .returned (.int .i64 (appE d s bs.length)) ∧ OwnF w0 w' p (appD d s bs) (Ext F w w') ∧ Touch F w w' := by
  obtain ⟨m, g, v, hD⟩ := h.disk
  refine (append_any hD (fun k hk => (h.mine k hk).2) s A bs c hB hFA hs hb hd).mono ?_
  rintro e w' ⟨rfl, h1, h2⟩
  exact ⟨rfl, h.next h1 h2, h2⟩
theorem own_sync (h : OwnF w0 w p d F) (s : ByteArray) (hs : s.size ≤ 9223372036854775807) (hd : d.deeds ≤ 1000000000) :
    Calls Try.prog 20 #[.pointer (some ⟨p, 0, none⟩), .string s] w fun e w' => e = .returned (.int .i64 (syncE d s)) ∧ OwnF w0 w' p (syncD d s) (Ext F w w') ∧ Touch F w w' := by
  obtain ⟨m, g, v, hD⟩ := h.disk
  refine (sync_any hD s hs (fun k hk => (h.mine k hk).2) hd).mono ?_
  rintro e w' ⟨rfl, h1, h2⟩
  exact ⟨rfl, h.next h1 h2, h2⟩
theorem own_crash (h : OwnF w0 w p d F) :
    Calls Try.prog 15 #[.pointer (some ⟨p, 0, none⟩)] w fun e w' => e = .returned (.tuple #[]) ∧ OwnF w0 w' p (crashD d) (Ext F w w') ∧ Touch F w w' := by
  obtain ⟨m, g, v, hD⟩ := h.disk
  refine (crash_disk hD).mono ?_
  rintro e w' ⟨rfl, h1, h2, _⟩
  exact ⟨rfl, h.same h1 h2, h2⟩
theorem own_fail (h : OwnF w0 w p d F) (n : Int) (hn : -9223372036854775808 ≤ n ∧ n ≤ 9223372036854775807) :
    Calls Try.prog 25 #[.pointer (some ⟨p, 0, none⟩), .int .i64 n] w fun e w' => e = .returned (.tuple #[]) ∧ OwnF w0 w' p (failD d n) (Ext F w w') ∧ Touch F w w' := by
  obtain ⟨m, g, v, hD⟩ := h.disk
  refine (fail_disk hD n hn).mono ?_
  rintro e w' ⟨rfl, h1, h2⟩
  exact ⟨rfl, h.same h1 h2, h2⟩
theorem own_on (h : OwnF w0 w p d F) (A : Option Addr) (ks : List Int) (c : Nat) (hK : IntsAt w A ks) (hc : ks.length ≤ c) (hcm : c ≤ 9223372036854775807) (hKF : ∀ ad, A = some ad → 0 < ks.length → ¬ F ad.block) (hd : d.deeds ≤ 1000000000) :
    Calls Try.prog 16 #[.pointer (some ⟨p, 0, none⟩), .slice A ks.length c] w fun e w' => e = .returned (.tuple #[]) ∧ OwnF w0 w' p (onD d ks) (Ext F w w') ∧ Touch F w w' := by
  obtain ⟨m, g, v, hD⟩ := h.disk
  refine (on_any hD (fun k hk => (h.mine k hk).2) A ks c hK hc hcm hKF hd).mono ?_
  rintro e w' ⟨rfl, h1, h2⟩
  exact ⟨rfl, h.next h1 h2, h2⟩
theorem own_read (h : OwnF w0 w p d F) (s : ByteArray) (hs : s.size ≤ 9223372036854775807) :
    Calls Try.prog 21 #[.pointer (some ⟨p, 0, none⟩), .string s] w fun e w' => ∃ A c, e = .returned (.tuple #[.slice A (readB d s).length c, .int .i64 (findE d s [])]) ∧ Bytes w' A (readB d s) ∧ (∀ ad, A = some ad → w.heap.size ≤ ad.block) ∧ OwnF w0 w' p d F ∧ Below w.heap.size w w' := by
  obtain ⟨m, g, v, hD⟩ := h.disk
  refine (read_any hD s hs).mono ?_
  rintro e w' ⟨V, rfl, hown, h1, h2⟩
  have hlt : ∀ x ∈ readB d s, x < 256 := by
    intro x hx
    unfold readB at hx
    split at hx
    · split at hx
      · rename_i y hy; exact (hD.files.at_ _ _ hy).lt x hx
      · simp at hx
    · simp at hx
  obtain ⟨A, c, rfl, hB, _⟩ := Bytes.of_own hown hlt
  refine ⟨A, c, rfl, hB, ?_, h.made h2, h2⟩
  rintro ad rfl
  exact (hown.lt ad.block rfl).1
theorem own_names (h : OwnF w0 w p d F) (hd : d.deeds ≤ 1000000000) :
    Calls Try.prog 28 #[.pointer (some ⟨p, 0, none⟩)] w fun e w' => ∃ A c, e = .returned (.slice A d.fs.length c) ∧ OwnF w0 w' p d F ∧ Below w.heap.size w w' ∧ w'.ownsRow w.heap.size 9 1 (.slice A d.fs.length c) d.fs.length (nameRow d.fs) := by
  obtain ⟨m, g, v, hD⟩ := h.disk
  refine (names_any hD.row hD.map hD.ok.sort (by have := hD.few; omega)).mono ?_
  rintro e w' ⟨V, rfl, hown, hb⟩
  obtain ⟨A, c, rfl⟩ : ∃ A c, V = .slice A d.fs.length c := by
    obtain ⟨_, ⟨e1, e2⟩ | ⟨g9, cap9, cur9, e1, _⟩⟩ := id hown
    · exact ⟨none, 0, by rw [e1, e2]⟩
    · exact ⟨_, _, e1⟩
  exact ⟨A, c, rfl, h.made hb, hb, hown⟩
/-- bytes that were typed -/
theorem bytes_lit (w : World) (xs : List Nat) (hx : ∀ x ∈ xs, x < 256) : Bytes (w.alloc (.cells (u8s xs).toArray 5)) (some ⟨w.heap.size, 0, none⟩) xs := Bytes.of_row (Row.made w 5 (u8s xs)) hx
theorem ints_lit (w : World) (z : Int) (hz : -9223372036854775808 ≤ z ∧ z ≤ 9223372036854775807) : IntsAt (w.alloc (.cells #[.int .i64 z] 3)) (some ⟨w.heap.size, 0, none⟩) [z] :=
  ⟨by simpa using hz, fun _ => ⟨w.heap.size, 0, rfl, by simp, fun j y hj => by
    cases j with
    | zero => simp at hj; subst hj; exact (Row.made w 3 [.int .i64 z]).cell 0
    | succ j => simp at hj⟩⟩
theorem ints_none (w : World) : IntsAt w none [] := ⟨by simp, by simp⟩
end
end Go.Proofs.Ytiagoaaldpajmaa
namespace Go.Proofs.Ytiagoaaldpajmaa
open Go.ChangeShapes Go.WideShapes Go.ChangeAt Go.RowKit Go.BigFrame Go.Maps Go.Sort
set_option linter.unusedVariables false
abbrev TR : TypeId := 68
abbrev TRF : TypeId := 83
/-- a file's struct -/
structure En where
  name : ByteArray
  ba : Option Addr
  bc : Nat
  f : Fil
def En.key (e : En) : Nm × Fil := (e.name.data.toList, e.f)
def En.cells (e : En) : List Value := [.string e.name, .slice e.ba e.f.b.length e.bc, .int .i64 (e.f.sure : Nat), .bool e.f.made]
def enRow (es : List En) : List Value := (es.map En.cells).flatten
theorem enRow_cons (e : En) (es : List En) : enRow (e :: es) = .string e.name :: .slice e.ba e.f.b.length e.bc :: .int .i64 (e.f.sure : Nat) :: .bool e.f.made :: enRow es := by simp [enRow, En.cells]
theorem enRow_append (es us : List En) : enRow (es ++ us) = enRow es ++ enRow us := by simp [enRow]
theorem enRow_len (es : List En) : (enRow es).length = es.length * 4 := by
  induction es with
  | nil => rfl
  | cons e es ih => rw [enRow_cons]; simp only [List.length_cons, ih]; omega
theorem enRow_at : ∀ (es : List En) (i : Nat) (e : En), es[i]? = some e → (enRow es)[i * 4]? = some (.string e.name) ∧ (enRow es)[i * 4 + 1]? = some (.slice e.ba e.f.b.length e.bc) ∧ (enRow es)[i * 4 + 2]? = some (.int .i64 (e.f.sure : Nat)) ∧ (enRow es)[i * 4 + 3]? = some (.bool e.f.made)
  | x :: es, 0, e, h => by
    obtain rfl : x = e := by simpa using h
    rw [enRow_cons]; exact ⟨rfl, rfl, rfl, rfl⟩
  | x :: es, i + 1, e, h => by
    have := enRow_at es i e (by simpa using h)
    rw [enRow_cons, show (i + 1) * 4 = i * 4 + 1 + 1 + 1 + 1 by omega]
    simp only [List.getElem?_cons_succ]
    exact this
theorem enRow_mem : ∀ (es : List En) (C : Nat → Option Value) (_ : ∀ (i : Nat) (e : En), es[i]? = some e → C (i * 4) = some (.string e.name) ∧ C (i * 4 + 1) = some (.slice e.ba e.f.b.length e.bc) ∧ C (i * 4 + 2) = some (.int .i64 (e.f.sure : Nat)) ∧ C (i * 4 + 3) = some (.bool e.f.made)) (j : Nat) (u : Value), (enRow es)[j]? = some u → C j = some u
  | [], C, _, j, u, h => by simp [enRow] at h
  | t :: es, C, hC, j, u, h => by
    rw [enRow_cons] at h
    obtain ⟨h0, h1, h2, h3⟩ := hC 0 t rfl
    match j, h with
    | 0, h => exact h0.trans (by simpa using h)
    | 1, h => exact h1.trans (by simpa using h)
    | 2, h => exact h2.trans (by simpa using h)
    | 3, h => exact h3.trans (by simpa using h)
    | j + 4, h =>
      refine enRow_mem es (fun k => C (k + 4)) (fun i t' ht => ?_) j u (by simpa using h)
      have := hC (i + 1) t' (by simpa using ht)
      rw [show (i + 1) * 4 = i * 4 + 4 by omega, show i * 4 + 4 + 1 = i * 4 + 1 + 4 by omega, show i * 4 + 4 + 2 = i * 4 + 2 + 4 by omega, show i * 4 + 4 + 3 = i * 4 + 3 + 4 by omega] at this
      exact this
theorem enRow_one (es : List En) : ∀ u ∈ enRow es, u.oneCell' = true := by
  intro u hu
  simp only [enRow, List.mem_flatten, List.mem_map] at hu
  obtain ⟨l, ⟨t, _, rfl⟩, hu⟩ := hu
  simp only [En.cells, List.mem_cons, List.not_mem_nil, or_false] at hu
  rcases hu with rfl | rfl | rfl | rfl <;> rfl
/-- a struct's cells -/
def En.at_ (e : En) (w : World) (b o : Nat) : Prop := w.cell? ⟨b, o, none⟩ = some (.string e.name) ∧ w.cell? ⟨b, o + 1, none⟩ = some (.slice e.ba e.f.b.length e.bc) ∧ w.cell? ⟨b, o + 2, none⟩ = some (.int .i64 (e.f.sure : Nat)) ∧ w.cell? ⟨b, o + 3, none⟩ = some (.bool e.f.made)
/-- a slice of them, in blocks of M -/
structure EnsAt (w : World) (M : Nat → Prop) (A : Option Addr) (es : List En) (c : Nat) : Prop where
  cap : es.length ≤ c
  max : c ≤ 9223372036854775807
  none : A = Option.none → c = 0
  mem : ∀ ad, A = some ad → M ad.block
  row : 0 < es.length → ∃ b off, A = some ⟨b, off, Option.none⟩ ∧ b < w.heap.size ∧ ∀ (j : Nat) (e : En), es[j]? = some e → e.at_ w b (off + j * 4)
/-- a struct's bytes -/
structure EnOk (w : World) (M : Nat → Prop) (e : En) : Prop where
  bytes : Bytes w e.ba e.f.b
  mem : ∀ ad, e.ba = some ad → M ad.block
  cap : e.f.b.length ≤ e.bc
  max : e.bc ≤ 9223372036854775807
  name : e.name.size ≤ 9223372036854775807
def rcells (A : Option Addr) (n c room dd f : Nat) (o : Bool) : List Value := [.slice A n c, .int .i64 (room : Nat), .int .i64 (dd : Nat), .int .i64 ((f : Int) - 1), .bool o]
structure RefAt (w : World) (q : Nat) (d : DM) (es : List En) (A : Option Addr) (c : Nat) (M : Nat → Prop) : Prop where
  row : Row w q TR (rcells A es.length c d.room d.deeds d.fuse d.off)
  list : EnsAt w M A es c
  ens : ∀ e ∈ es, EnOk w M e
  fs : d.fs = es.map En.key
  free : ¬ M q
  room : d.room ≤ 9223372036854775807
  fuse : d.fuse ≤ 9223372036854775808
  sort : SortF d.fs
section
variable {w w' : World} {q : Nat} {d : DM} {es : List En} {A : Option Addr} {c : Nat} {M : Nat → Prop} {e : En} {G : Nat → Prop}
theorem En.at_.touch {b o : Nat} (h : e.at_ w b o) (ht : Touch G w w') (hb : b < w.heap.size) (hG : ¬ G b) : e.at_ w' b o :=
  ⟨(World.cell?_of_block (ht.block b hb hG)).trans h.1, (World.cell?_of_block (ht.block b hb hG)).trans h.2.1, (World.cell?_of_block (ht.block b hb hG)).trans h.2.2.1, (World.cell?_of_block (ht.block b hb hG)).trans h.2.2.2⟩
theorem EnsAt.touch (h : EnsAt w M A es c) (ht : Touch G w w') (hG : ∀ k, M k → ¬ G k) : EnsAt w' M A es c :=
  ⟨h.cap, h.max, h.none, h.mem, fun h0 => by
    obtain ⟨b, off, e, hlt, hc⟩ := h.row h0
    exact ⟨b, off, e, Nat.lt_of_lt_of_le hlt ht.size, fun j x hj => (hc j x hj).touch ht hlt (hG _ (h.mem _ e))⟩⟩
theorem EnOk.touch (h : EnOk w M e) (ht : Touch G w w') (hG : ∀ k, M k → ¬ G k) : EnOk w' M e :=
  ⟨⟨h.bytes.1, fun h0 => by
    obtain ⟨ad, e', hlt, hc⟩ := h.bytes.2 h0
    refine ⟨ad, e', Nat.lt_of_lt_of_le hlt ht.size, fun j y hy => ?_⟩
    rw [← hc j y hy]
    exact World.cell?_of_block (by rw [add_block]; exact ht.block _ hlt (hG _ (h.mem _ e')))⟩, h.mem, h.cap, h.max, h.name⟩
theorem RefAt.touch (h : RefAt w q d es A c M) (ht : Touch G w w') (hG : ∀ k, M k → ¬ G k) (hq : ¬ G q) : RefAt w' q d es A c M :=
  ⟨h.row.touch ht hq, h.list.touch ht hG, fun e he => (h.ens e he).touch ht hG, h.fs, h.free, h.room, h.fuse, h.sort⟩
theorem RefAt.still (h : RefAt w q d es A c M) (ht : Touch (fun _ => False) w w') : RefAt w' q d es A c M := h.touch ht (by simp) (by simp)
/-- the disk's own struct is written -/
theorem RefAt.own {d' : DM} (h : RefAt w q d es A c M) (ht : Touch (· = q) w w') (hr : Row w' q TR (rcells A es.length c d'.room d'.deeds d'.fuse d'.off)) (hfs : d'.fs = d.fs) (hro : d'.room ≤ 9223372036854775807) (hfu : d'.fuse ≤ 9223372036854775808) : RefAt w' q d' es A c M :=
  have hG : ∀ k, M k → ¬ (k = q) := fun k hk e => h.free (e ▸ hk)
  ⟨hr, h.list.touch ht hG, fun e he => (h.ens e he).touch ht hG, hfs.trans h.fs, h.free, hro, hfu, hfs ▸ h.sort⟩
theorem rrow {n room dd f : Nat} {o : Bool} (h : Row w q TR (rcells A n c room dd f o)) : w.cell? ⟨q, 0, none⟩ = some (.slice A n c) ∧ w.cell? ⟨q, 1, none⟩ = some (.int .i64 (room : Nat)) ∧ w.cell? ⟨q, 2, none⟩ = some (.int .i64 (dd : Nat)) ∧ w.cell? ⟨q, 3, none⟩ = some (.int .i64 ((f : Int) - 1)) ∧ w.cell? ⟨q, 4, none⟩ = some (.bool o) :=
  ⟨h.cell 0, h.cell 1, h.cell 2, h.cell 3, h.cell 4⟩
end
/-- where a name stands -/
def posF (n : Nm) : Fs → Nat
  | [] => 0
  | p :: r => if bytesBefore p.1 n then posF n r + 1 else 0
theorem less_before : ∀ a b : List UInt8, Op.bytesLess a b = bytesBefore a b
  | [], [] => rfl
  | [], _ :: _ => rfl
  | _ :: _, [] => rfl
  | x :: a, y :: b => by simp only [Op.bytesLess, bytesBefore, less_before a b]
section
variable {n : Nm} {fs : Fs} {k : Nat}
theorem posF_le : posF n fs ≤ fs.length := by
  induction fs with
  | nil => exact Nat.le_refl _
  | cons p r ih => unfold posF; split <;> simp; omega
theorem posF_of (h : ∀ j p, j < k → fs[j]? = some p → bytesBefore p.1 n = true) (hk : k ≤ fs.length) (hn : ∀ p, fs[k]? = some p → bytesBefore p.1 n = false) : posF n fs = k := by
  induction fs generalizing k with
  | nil => simp at hk; simp [posF, hk]
  | cons p r ih =>
    cases k with
    | zero => unfold posF; rw [if_neg (by rw [hn p rfl]; exact Bool.false_ne_true)]
    | succ k =>
      unfold posF
      rw [if_pos (h 0 p (Nat.succ_pos _) rfl), ih (k := k) (fun j x hj hx => h (j + 1) x (by omega) (by simpa using hx)) (by simpa using hk) (fun x hx => hn x (by simpa using hx))]
theorem getF_pos (hS : SortF fs) : getF n fs = match fs[posF n fs]? with | some p => if p.1 = n then some p.2 else none | none => none := by
  induction fs with
  | nil => rfl
  | cons p r ih =>
    unfold SortF at hS
    rw [List.pairwise_cons] at hS
    unfold posF
    by_cases hb : bytesBefore p.1 n = true
    · rw [if_pos hb]
      have hne : ¬ p.1 = n := fun e => by rw [e, bb_irrefl] at hb; cases hb
      have := ih hS.2
      simp only [List.getElem?_cons_succ]
      rw [← this]
      simp [getF, beq_eq_false_iff_ne.2 hne]
    · rw [if_neg hb]
      simp only [List.getElem?_cons_zero]
      by_cases he : p.1 = n
      · rw [if_pos he]; simp [getF, he]
      · rw [if_neg he]
        have hnb : bytesBefore n p.1 = true := (bb_total he).resolve_left hb
        simp only [getF, List.find?_cons, beq_eq_false_iff_ne.2 he, Option.map_eq_none_iff, List.find?_eq_none, beq_iff_eq]
        intro x hx e
        have := bb_trans hnb (hS.1 x hx)
        rw [e, bb_irrefl] at this; cases this
end
end Go.Proofs.Ytiagoaaldpajmaa
namespace Go.Proofs.Ytiagoaaldpajmaa
open Go.ChangeShapes Go.WideShapes Go.ChangeAt Go.RowKit Go.BigFrame Go.Maps Go.Sort
set_option linter.unusedVariables false
section
variable {w w' : World} {q : Nat} {d : DM} {es : List En} {A : Option Addr} {c : Nat} {M : Nat → Prop} {e : En} {G : Nat → Prop}
/-- is it the name that stands there? -/
def isF (n : Nm) (fs : Fs) : Bool := (getF n fs).isSome
theorem toList_inj {a b : ByteArray} : (a.toList == b.toList) = (a.data.toList == b.data.toList) := by
  rw [Lib.toList_data, Lib.toList_data]
theorem isF_at {n : Nm} {fs : Fs} (hS : SortF fs) {p : Nm × Fil} (h : fs[posF n fs]? = some p) : isF n fs = (p.1 == n) := by
  unfold isF
  rw [getF_pos hS, h]
  by_cases e : p.1 = n
  · simp [e]
  · simp [e]
theorem isF_end {n : Nm} {fs : Fs} (hS : SortF fs) (h : posF n fs = fs.length) : isF n fs = false := by
  unfold isF
  rw [getF_pos hS, List.getElem?_eq_none (by omega)]; rfl
set_option maxRecDepth 100000 in
set_option maxHeartbeats 4000000 in
theorem at_any (h : RefAt w q d es A c M) (s : ByteArray) :
    Calls Try.prog 69 #[.pointer (some ⟨q, 0, none⟩), .string s] w fun e w' => e = .returned (.tuple #[.int .i64 (posF s.data.toList d.fs : Nat), .bool (isF s.data.toList d.fs)]) ∧ w' = w.drew := by
  obtain ⟨h0, h1, h2, h3, h4⟩ := rrow h.row
  have hlen := h.list.cap
  have hmax := h.list.max
  have hfs : ∀ (k : Nat) (x : En), es[k]? = some x → d.fs[k]? = some x.key := fun k x hx => by rw [h.fs, List.getElem?_map, hx]; rfl
  have hfl : d.fs.length = es.length := by rw [h.fs, List.length_map]
  have hrow := h.list.row
  have HH := Lib.hid h; have HFs := Lib.hid hfs; have HFl := Lib.hid hfl; have HRow := Lib.hid hrow
  clear h hfs hfl hrow h1 h2 h3 h4
  go_enter Try.func69, Try.ntmps69
  go_wp2
  go_loop [6] (fun i => ∃ k : Nat, k ≤ es.length ∧ i = .int .i64 k ∧ ∀ j p, j < k → d.fs[j]? = some p → bytesBefore p.1 s.data.toList = true) (fun i => es.length - (intOf i).toNat)
  case atStart => exact ⟨0, Nat.zero_le _, rfl, fun j p hj => absurd hj (Nat.not_lt_zero _)⟩
  case round =>
    obtain ⟨k, hk, rfl, hall⟩ := hrel
    have HA := Lib.hid hall; clear hall
    by_cases hlt : k < es.length
    · obtain ⟨b, off, hA, hbl, hci⟩ := HRow.out (by omega)
      subst hA
      obtain ⟨x, hx⟩ : ∃ x, es[k]? = some x := ⟨_, List.getElem?_eq_getElem hlt⟩
      obtain ⟨hc0, -, -, -⟩ := hci k x hx
      have hdx := HFs.out k x hx
      have hb : Op.bytesLess x.name.toList s.toList = bytesBefore x.name.data.toList s.data.toList := by rw [less_before, Lib.toList_data, Lib.toList_data]
      have hq2 : (x.name.toList == s.toList) = (x.name.data.toList == s.data.toList) := toList_inj
      have HX := Lib.hid hx; have HDX := Lib.hid hdx; clear hx hci hdx
      cases hbb : bytesBefore x.name.data.toList s.data.toList with
      | true =>
        rw [hbb] at hb
        go_wp2
        go_round
        case rel =>
          refine ⟨k + 1, by omega, by go_num, fun j p hj hp => ?_⟩
          by_cases hjk : j < k
          · exact HA.out j p hjk hp
          · obtain rfl : j = k := by omega
            rw [HDX.out] at hp; cases hp; exact hbb
        case measure => simp [intOf]; omega
      | false =>
        rw [hbb] at hb
        have hpos : posF s.data.toList d.fs = k := posF_of HA.out (by rw [HFl.out]; omega) (fun p hp => by rw [HDX.out] at hp; cases hp; exact hbb)
        have his : isF s.data.toList d.fs = (x.name.data.toList == s.data.toList) := isF_at HH.out.sort (by rw [hpos]; exact HDX.out)
        have HPos := Lib.hid hpos; have HIs := Lib.hid his; have HQ2 := Lib.hid hq2
        clear hpos his hq2
        have hkd : w.drew.cell? ⟨q, 0, none⟩ = some (.slice (some ⟨b, off, none⟩) es.length c) := h0
        have hcd : w.drew.cell? ⟨b, off + k * 4, none⟩ = some (.string x.name) := hc0
        go_wp2_with fail
        refine Stage.wp_region (by kernel_rfl) (by kernel_rfl) (fun _ w' => w' = w.drew) rfl ?_
        refine Stage.wpSt_reads 22 (fun w' => w' = w.drew) (by kernel_rfl) (fun i _ _ S w' _ _ h => ⟨h, h⟩) ?_
        simp only [List.take_succ_cons, List.take_zero, List.drop_succ_cons, List.drop_zero]
        repeat (go_big_quiet_step (fail))
        refine wpQuiet_nil (Stage.wpSt_nil ?_)
        intro S w4 _ hw4
        obtain rfl : w4 = w.drew := hw4
        go_wp2_with fail
        go_ret2
        exact ⟨by rw [HPos.out, HIs.out, HQ2.out]; rfl, rfl⟩
    · obtain rfl : k = es.length := by omega
      have hpos : posF s.data.toList d.fs = es.length := posF_of HA.out (by rw [HFl.out]; omega) (fun p hp => by rw [List.getElem?_eq_none (by rw [HFl.out]; omega)] at hp; cases hp)
      have his : isF s.data.toList d.fs = false := isF_end HH.out.sort (by rw [hpos, HFl.out])
      have HPos := Lib.hid hpos; have HIs := Lib.hid his
      clear hpos his
      have hkd : w.drew.cell? ⟨q, 0, none⟩ = some (.slice A es.length c) := h0
      go_wp2_with fail
      refine Stage.wp_region (by kernel_rfl) (by kernel_rfl) (fun _ w' => w' = w.drew) rfl ?_
      refine Stage.wpSt_reads 22 (fun w' => w' = w.drew) (by kernel_rfl) (fun i _ _ S w' _ _ h => ⟨h, h⟩) ?_
      simp only [List.take_succ_cons, List.take_zero, List.drop_succ_cons, List.drop_zero]
      repeat (go_big_quiet_step (fail))
      refine wpQuiet_nil (Stage.wpSt_nil ?_)
      intro S w4 _ hw4
      obtain rfl : w4 = w.drew := hw4
      go_wp2_with fail
      go_ret2
      exact ⟨by rw [HPos.out, HIs.out]; rfl, rfl⟩
end
end Go.Proofs.Ytiagoaaldpajmaa
