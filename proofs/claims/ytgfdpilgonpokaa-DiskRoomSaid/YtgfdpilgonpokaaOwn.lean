/- A disk of the law's own. -/
import Derived.Test.YtgfdpilgonpokaaOn2
import Derived.Test.YtgfdpilgonpokaaConv
namespace Go.Proofs.Ytgfdpilgonpokaa
open Go.ChangeShapes Go.WideShapes Go.ChangeAt Go.RowKit Go.BigFrame Go.Maps Go.Sort
set_option linter.unusedVariables false
/-- made since w0, inside F -/
structure OwnF (w0 w : World) (p : Nat) (d : DM) (F : Nat → Prop) : Prop where
  disk : IsDisk w p d F
  mine : ∀ k, F k → w0.heap.size ≤ k ∧ k < w.heap.size
  below : Below w0.heap.size w0 w
section
variable {w0 w w' : World} {F G : Nat → Prop} {p : Nat} {d d' : DM}
theorem OwnF.stay (h : OwnF w0 w p d F) (ht : Touch G w w') (hG : ∀ k, F k → ¬ G k) (hb : ∀ k, G k → w0.heap.size ≤ k) : OwnF w0 w' p d F := by
  obtain ⟨⟨m, g, v, hd⟩, h2, h3⟩ := h
  exact ⟨⟨m, g, v, hd.touch ht hG⟩, fun k hk => ⟨(h2 k hk).1, Nat.lt_of_lt_of_le (h2 k hk).2 ht.size⟩, h3.trans (ht.below hb h3.size)⟩
theorem OwnF.made (h : OwnF w0 w p d F) (hb : Below w.heap.size w w') : OwnF w0 w' p d F := h.stay (Touch.of_below (F := fun _ => False) hb) (by simp) (by simp)
theorem OwnF.alloc (h : OwnF w0 w p d F) (o : Obj) : OwnF w0 (w.alloc o) p d F := h.made ((Below.refl _ _).alloc (Nat.le_refl _) o)
theorem OwnF.next (h : OwnF w0 w p d F) (hd : IsDisk w' p d' (Ext F w w')) (ht : Touch F w w') : OwnF w0 w' p d' (Ext F w w') :=
  ⟨hd, fun k hk => by
    rcases hk with hk | hk
    · exact ⟨(h.mine k hk).1, Nat.lt_of_lt_of_le (h.mine k hk).2 ht.size⟩
    · exact ⟨Nat.le_trans h.below.size hk.1, hk.2⟩, h.below.trans (ht.below (fun i hi => (h.mine i hi).1) h.below.size)⟩
theorem OwnF.same (h : OwnF w0 w p d F) {m : Option Nat} {g : Nm → Nat} {v : Nm → Value} (hd : DiskAt w' p d' F m g v) (ht : Touch F w w') : OwnF w0 w' p d' (Ext F w w') :=
  h.next ⟨m, g, v, hd.mono fun k hk => .inl hk⟩ ht
theorem own_new (q : Int) (hb : Below w0.heap.size w0 w) (hq : -9223372036854775808 ≤ q ∧ q ≤ 9223372036854775807) :
    Calls Try.prog 11 #[.int .i64 q] w fun e w' => e = .returned (.pointer (some ⟨w.heap.size, 0, none⟩)) ∧ OwnF w0 w' w.heap.size (newD q) (· = w.heap.size) ∧ Below w.heap.size w w' := by
  refine (new_disk q w hq).mono ?_
  rintro e w' ⟨rfl, hd, hbl, hs⟩
  exact ⟨rfl, ⟨⟨_, _, _, hd⟩, by rintro k rfl; exact ⟨hb.size, by omega⟩, hb.trans (hbl.mono hb.size)⟩, hbl⟩
theorem own_append (h : OwnF w0 w p d F) (s : ByteArray) (A : Addr) (bs : List Nat) (c : Nat) (hB : Bytes w (some A) bs) (hFA : 0 < bs.length → ¬ F A.block) (hs : s.size ≤ 9223372036854775807) (hb : bs.length ≤ 1000000000) (hd : d.deeds ≤ 1000000000) :
    Calls Try.prog 14 #[.pointer (some ⟨p, 0, none⟩), .string s, .slice (some A) bs.length c] w fun e w' => e = .returned (.int .i64 (appE d s bs.length)) ∧ OwnF w0 w' p (appD d s bs) (Ext F w w') ∧ Touch F w w' := by
  obtain ⟨m, g, v, hD⟩ := h.disk
  refine (append_any hD (fun k hk => (h.mine k hk).2) s A bs c hB hFA hs hb hd).mono ?_
  rintro e w' ⟨rfl, h1, h2⟩
  exact ⟨rfl, h.next h1 h2, h2⟩
theorem own_sync (h : OwnF w0 w p d F) (s : ByteArray) (hs : s.size ≤ 9223372036854775807) (hd : d.deeds ≤ 1000000000) :
    Calls Try.prog 20 #[.pointer (some ⟨p, 0, none⟩), .string s] w fun e w' => e = .returned (.int .i64 (syncE d s)) ∧ OwnF w0 w' p (syncD d s) (Ext F w w') ∧ Touch F w w' := by
  obtain ⟨m, g, v, hD⟩ := h.disk
  refine (sync_any hD s hs (fun k hk => (h.mine k hk).2) hd).mono ?_
  rintro e w' ⟨rfl, h1, h2⟩
  exact ⟨rfl, h.next h1 h2, h2⟩
theorem own_crash (h : OwnF w0 w p d F) :
    Calls Try.prog 15 #[.pointer (some ⟨p, 0, none⟩)] w fun e w' => e = .returned (.tuple #[]) ∧ OwnF w0 w' p (crashD d) (Ext F w w') ∧ Touch F w w' := by
  obtain ⟨m, g, v, hD⟩ := h.disk
  refine (crash_disk hD).mono ?_
  rintro e w' ⟨rfl, h1, h2, _⟩
  exact ⟨rfl, h.same h1 h2, h2⟩
theorem own_fail (h : OwnF w0 w p d F) (n : Int) (hn : -9223372036854775808 ≤ n ∧ n ≤ 9223372036854775807) :
    Calls Try.prog 25 #[.pointer (some ⟨p, 0, none⟩), .int .i64 n] w fun e w' => e = .returned (.tuple #[]) ∧ OwnF w0 w' p (failD d n) (Ext F w w') ∧ Touch F w w' := by
  obtain ⟨m, g, v, hD⟩ := h.disk
  refine (fail_disk hD n hn).mono ?_
  rintro e w' ⟨rfl, h1, h2⟩
  exact ⟨rfl, h.same h1 h2, h2⟩
theorem own_on (h : OwnF w0 w p d F) (A : Option Addr) (ks : List Int) (c : Nat) (hK : IntsAt w A ks) (hc : ks.length ≤ c) (hcm : c ≤ 9223372036854775807) (hKF : ∀ ad, A = some ad → 0 < ks.length → ¬ F ad.block) (hd : d.deeds ≤ 1000000000) :
    Calls Try.prog 16 #[.pointer (some ⟨p, 0, none⟩), .slice A ks.length c] w fun e w' => e = .returned (.tuple #[]) ∧ OwnF w0 w' p (onD d ks) (Ext F w w') ∧ Touch F w w' := by
  obtain ⟨m, g, v, hD⟩ := h.disk
  refine (on_any hD (fun k hk => (h.mine k hk).2) A ks c hK hc hcm hKF hd).mono ?_
  rintro e w' ⟨rfl, h1, h2⟩
  exact ⟨rfl, h.next h1 h2, h2⟩
theorem own_read (h : OwnF w0 w p d F) (s : ByteArray) (hs : s.size ≤ 9223372036854775807) :
    Calls Try.prog 21 #[.pointer (some ⟨p, 0, none⟩), .string s] w fun e w' => ∃ A c, e = .returned (.tuple #[.slice A (readB d s).length c, .int .i64 (findE d s [])]) ∧ Bytes w' A (readB d s) ∧ (∀ ad, A = some ad → w.heap.size ≤ ad.block) ∧ OwnF w0 w' p d F ∧ Below w.heap.size w w' := by
  obtain ⟨m, g, v, hD⟩ := h.disk
  refine (read_any hD s hs).mono ?_
  rintro e w' ⟨V, rfl, hown, h1, h2⟩
  have hlt : ∀ x ∈ readB d s, x < 256 := by
    intro x hx
    unfold readB at hx
    split at hx
    · split at hx
      · rename_i y hy; exact (hD.files.at_ _ _ hy).lt x hx
      · simp at hx
    · simp at hx
  obtain ⟨A, c, rfl, hB, _⟩ := Bytes.of_own hown hlt
  refine ⟨A, c, rfl, hB, ?_, h.made h2, h2⟩
  rintro ad rfl
  exact (hown.lt ad.block rfl).1
theorem own_names (h : OwnF w0 w p d F) (hd : d.deeds ≤ 1000000000) :
    Calls Try.prog 28 #[.pointer (some ⟨p, 0, none⟩)] w fun e w' => ∃ A c, e = .returned (.slice A d.fs.length c) ∧ OwnF w0 w' p d F ∧ Below w.heap.size w w' ∧ w'.ownsRow w.heap.size 9 1 (.slice A d.fs.length c) d.fs.length (nameRow d.fs) := by
  obtain ⟨m, g, v, hD⟩ := h.disk
  refine (names_any hD.row hD.map hD.ok.sort (by have := hD.few; omega)).mono ?_
  rintro e w' ⟨V, rfl, hown, hb⟩
  obtain ⟨A, c, rfl⟩ : ∃ A c, V = .slice A d.fs.length c := by
    obtain ⟨_, ⟨e1, e2⟩ | ⟨g9, cap9, cur9, e1, _⟩⟩ := id hown
    · exact ⟨none, 0, by rw [e1, e2]⟩
    · exact ⟨_, _, e1⟩
  exact ⟨A, c, rfl, h.made hb, hb, hown⟩
/-- bytes that were typed -/
theorem bytes_lit (w : World) (xs : List Nat) (hx : ∀ x ∈ xs, x < 256) : Bytes (w.alloc (.cells (u8s xs).toArray 5)) (some ⟨w.heap.size, 0, none⟩) xs := Bytes.of_row (Row.made w 5 (u8s xs)) hx
theorem ints_lit (w : World) (z : Int) (hz : -9223372036854775808 ≤ z ∧ z ≤ 9223372036854775807) : IntsAt (w.alloc (.cells #[.int .i64 z] 3)) (some ⟨w.heap.size, 0, none⟩) [z] :=
  ⟨by simpa using hz, fun _ => ⟨w.heap.size, 0, rfl, by simp, fun j y hj => by
    cases j with
    | zero => simp at hj; subst hj; exact (Row.made w 3 [.int .i64 z]).cell 0
    | succ j => simp at hj⟩⟩
theorem ints_none (w : World) : IntsAt w none [] := ⟨by simp, by simp⟩
end
end Go.Proofs.Ytgfdpilgonpokaa
