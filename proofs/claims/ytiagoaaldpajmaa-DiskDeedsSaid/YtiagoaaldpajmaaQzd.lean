/- Several texts in one: Pair. -/
import Derived.Test.YtiagoaaldpajmaaQzc
import Derived.Test.YtiagoaaldpajmaaQy
namespace Go.Proofs.Ytiagoaaldpajmaa
open Go.ChangeShapes Go.WideShapes Go.ChangeAt Go.RowKit Go.BigFrame Go.Maps Go.Sort
set_option linter.unusedVariables false
structure PairAt (w0 w : World) (p q : Nat) (d m : DM) (X F M : Nat → Prop) (es : List En) (A : Option Addr) (c : Nat) : Prop where
  own : OwnF w0 w p d F
  ref : RefAt w q m es A c M
  mine : ∀ k, M k → w0.heap.size ≤ k ∧ k < w.heap.size
  qm : w0.heap.size ≤ q
  apart : ∀ k, F k → ¬ M k ∧ k ≠ q
  ex : ∀ k, X k → k < w.heap.size ∧ ¬ F k ∧ ¬ M k ∧ k ≠ q
/-- both are there, made since w0, apart, and apart from the blocks X -/
def Pair (w0 w : World) (p q : Nat) (d m : DM) (X : Nat → Prop) : Prop := ∃ F M es A c, PairAt w0 w p q d m X F M es A c
/-- the blocks that a step may touch -/
def Away (w0 : World) (X : Nat → Prop) (k : Nat) : Prop := w0.heap.size ≤ k ∧ ¬ X k
/-- what a step leaves -/
def PairTo (w0 w w' : World) (p q : Nat) (d m : DM) (X : Nat → Prop) : Prop := Pair w0 w' p q d m X ∧ Touch (Away w0 X) w w'
/-- sizes that are such -/
structure Fine (m : DM) : Prop where
  deeds : m.deeds ≤ 1000000000
  few : m.fs.length ≤ 1000000
  len : ∀ n x, getF n m.fs = some x → x.b.length ≤ 8388608
  sure : ∀ n x, getF n m.fs = some x → x.sure ≤ x.b.length
  used : usedF m.fs ≤ 1000000000000
section
variable {w0 w w' w1 w2 : World} {p q : Nat} {d d' m m' : DM} {X Y F M : Nat → Prop} {es : List En} {A : Option Addr} {c : Nat}
theorem PairAt.own_step (h : PairAt w0 w p q d m X F M es A c) (h1 : OwnF w0 w' p d' (Ext F w w')) (ht : Touch F w w') : PairTo w0 w w' p q d' m X := by
  have hq := h.ref.row.lt
  have hs := ht.size
  refine ⟨⟨Ext F w w', M, es, A, c, h1, h.ref.touch ht (fun k hM hF => (h.apart k hF).1 hM) (fun hq => (h.apart _ hq).2 rfl), fun k hk => ⟨(h.mine k hk).1, by have := (h.mine k hk).2; omega⟩, h.qm, ?_, ?_⟩, ht.mono fun k hk => ⟨(h.own.mine k hk).1, fun hx => (h.ex k hx).2.1 hk⟩⟩
  · rintro k (hk | hk)
    · exact h.apart k hk
    · exact ⟨fun hM => by have := (h.mine k hM).2; omega, by omega⟩
  · intro k hx
    obtain ⟨h1, h2, h3, h4⟩ := h.ex k hx
    refine ⟨by omega, ?_, h3, h4⟩
    rintro (hk | hk)
    · exact h2 hk
    · omega
theorem PairAt.ref_step (h : PairAt w0 w p q d m X F M es A c) (hr : RefTo w w' q m' M) : PairTo w0 w w' p q d m' X := by
  obtain ⟨es', A', c', hR, ht⟩ := hr
  have hq := h.ref.row.lt
  have hs := ht.size
  refine ⟨⟨F, Since M w w', es', A', c', h.own.stay ht (fun k hk e => (h.apart k hk).2 e) (by rintro k rfl; exact h.qm), hR, ?_, h.qm, ?_, ?_⟩, ht.mono ?_⟩
  · rintro k (hk | hk)
    · exact ⟨(h.mine k hk).1, by have := (h.mine k hk).2; omega⟩
    · exact ⟨by have := h.own.below.size; omega, hk.2⟩
  · intro k hk
    refine ⟨?_, (h.apart k hk).2⟩
    rintro (hM | hM)
    · exact (h.apart k hk).1 hM
    · have := (h.own.mine k hk).2; omega
  · intro k hx
    obtain ⟨h1, h2, h3, h4⟩ := h.ex k hx
    refine ⟨by omega, h2, ?_, h4⟩
    rintro (hM | hM)
    · exact h3 hM
    · omega
  · rintro k rfl
    exact ⟨h.qm, fun hx => (h.ex _ hx).2.2.2 rfl⟩
theorem Pair.size (h : Pair w0 w p q d m X) : w0.heap.size ≤ w.heap.size := by
  obtain ⟨F, M, es, A, c, h⟩ := h; exact h.own.below.size
theorem Pair.below (h : Pair w0 w p q d m X) : Below w0.heap.size w0 w := by
  obtain ⟨F, M, es, A, c, h⟩ := h; exact h.own.below
theorem Pair.exlt (h : Pair w0 w p q d m X) : ∀ k, X k → k < w.heap.size := by
  obtain ⟨F, M, es, A, c, h⟩ := h; exact fun k hk => (h.ex k hk).1
theorem Pair.made (h : Pair w0 w p q d m X) (hb : Below w.heap.size w w') : Pair w0 w' p q d m X := by
  obtain ⟨F, M, es, A, c, h⟩ := h
  have hs := hb.size
  exact ⟨F, M, es, A, c, h.own.made hb, h.ref.still (Touch.of_below hb), fun k hk => ⟨(h.mine k hk).1, by have := (h.mine k hk).2; omega⟩, h.qm, h.apart, fun k hk => ⟨by have := (h.ex k hk).1; omega, (h.ex k hk).2⟩⟩
/-- what was made is kept apart, too -/
theorem Pair.more (h : Pair w0 w p q d m X) (hb : Below w.heap.size w w') : Pair w0 w' p q d m (fun k => X k ∨ (w.heap.size ≤ k ∧ k < w'.heap.size)) := by
  obtain ⟨F, M, es, A, c, h⟩ := h
  have hs := hb.size
  have hq := h.ref.row.lt
  refine ⟨F, M, es, A, c, h.own.made hb, h.ref.still (Touch.of_below hb), fun k hk => ⟨(h.mine k hk).1, by have := (h.mine k hk).2; omega⟩, h.qm, h.apart, ?_⟩
  rintro k (hk | hk)
  · exact ⟨by have := (h.ex k hk).1; omega, (h.ex k hk).2⟩
  · exact ⟨hk.2, fun hF => by have := (h.own.mine k hF).2; omega, fun hM => by have := (h.mine k hM).2; omega, by omega⟩
theorem Pair.less (h : Pair w0 w p q d m X) (hY : ∀ k, Y k → X k) : Pair w0 w p q d m Y := by
  obtain ⟨F, M, es, A, c, h⟩ := h
  exact ⟨F, M, es, A, c, h.own, h.ref, h.mine, h.qm, h.apart, fun k hk => h.ex k (hY k hk)⟩
/-- a block of X is written to -/
theorem Pair.write (h : Pair w0 w p q d m X) {k : Nat} (hk : X k) (h0 : w0.heap.size ≤ k) (ht : Touch (· = k) w w') : Pair w0 w' p q d m X := by
  obtain ⟨F, M, es, A, c, h⟩ := h
  have hs := ht.size
  obtain ⟨h1, h2, h3, h4⟩ := h.ex k hk
  exact ⟨F, M, es, A, c, h.own.stay ht (by rintro i hi rfl; exact h2 hi) (by rintro i rfl; exact h0), h.ref.touch ht (by rintro i hi rfl; exact h3 hi) (by rintro rfl; exact h4 rfl), fun k hk => ⟨(h.mine k hk).1, by have := (h.mine k hk).2; omega⟩, h.qm, h.apart, fun k hk => ⟨by have := (h.ex k hk).1; omega, (h.ex k hk).2⟩⟩
theorem PairTo.refl (h : Pair w0 w p q d m X) : PairTo w0 w w p q d m X := ⟨h, Touch.refl _ _⟩
theorem PairTo.trans (h : Touch (Away w0 X) w w1) (k : PairTo w0 w1 w2 p q d m X) : PairTo w0 w w2 p q d m X := ⟨k.1, h.trans k.2⟩
theorem Fine.of_own (h : OwnF w0 w p d F) (hd : d.deeds ≤ 1000000) (hr : d.room ≤ 1000000000000) : Fine d ∧ (SortF d.fs) := by
  obtain ⟨mm, g, v, hD⟩ := h.disk
  exact ⟨⟨by omega, by have := hD.few; omega, hD.ok.len, hD.ok.sure, by have := hD.used; omega⟩, hD.ok.sort⟩
theorem Pair.fine (h : Pair w0 w p q d m X) (hd : d.deeds ≤ 1000000) (hr : d.room ≤ 1000000000000) : Fine d ∧ SortF d.fs := by
  obtain ⟨F, M, es, A, c, h⟩ := h; exact Fine.of_own h.own hd hr
theorem RefAt.es_len (h : RefAt w q m es A c M) : es.length = m.fs.length := by rw [h.fs, List.length_map]
/-! the program's calls -/
section
variable (h : Pair w0 w p q d m X)
include h
theorem pair_append (s : ByteArray) (B : Addr) (bs : List Nat) (cb : Nat) (hB : Bytes w (some B) bs) (hX : X B.block) (hs : s.size ≤ 9223372036854775807) (hb : bs.length ≤ 1000000000) (hd : d.deeds ≤ 1000000000) :
    Calls Try.prog 14 #[.pointer (some ⟨p, 0, none⟩), .string s, .slice (some B) bs.length cb] w fun e w' => e = .returned (.int .i64 (appE d s bs.length)) ∧ PairTo w0 w w' p q (appD d s bs) m X := by
  obtain ⟨F, M, es, A, c, h⟩ := h
  exact (own_append h.own s B bs cb hB (fun _ => (h.ex _ hX).2.1) hs hb hd).mono fun e w' ⟨he, h1, ht⟩ => ⟨he, h.own_step h1 ht⟩
theorem pair_sync (s : ByteArray) (hs : s.size ≤ 9223372036854775807) (hd : d.deeds ≤ 1000000000) :
    Calls Try.prog 20 #[.pointer (some ⟨p, 0, none⟩), .string s] w fun e w' => e = .returned (.int .i64 (syncE d s)) ∧ PairTo w0 w w' p q (syncD d s) m X := by
  obtain ⟨F, M, es, A, c, h⟩ := h
  exact (own_sync h.own s hs hd).mono fun e w' ⟨he, h1, ht⟩ => ⟨he, h.own_step h1 ht⟩
theorem pair_cut (s : ByteArray) (n : Int) (hs : s.size ≤ 9223372036854775807) (hn : -9223372036854775808 ≤ n ∧ n ≤ 9223372036854775807) (hd : d.deeds ≤ 1000000000) :
    Calls Try.prog 30 #[.pointer (some ⟨p, 0, none⟩), .string s, .int .i64 n] w fun e w' => e = .returned (.int .i64 (cutE d s n)) ∧ PairTo w0 w w' p q (cutD d s n) m X := by
  obtain ⟨F, M, es, A, c, h⟩ := h
  exact (own_cut h.own s n hs hn hd).mono fun e w' ⟨he, h1, ht⟩ => ⟨he, h.own_step h1 ht⟩
theorem pair_rename (a b : ByteArray) (hsa : a.size ≤ 9223372036854775807) (hsb : b.size ≤ 9223372036854775807) (hd : d.deeds ≤ 1000000000) :
    Calls Try.prog 26 #[.pointer (some ⟨p, 0, none⟩), .string a, .string b] w fun e w' => e = .returned (.int .i64 (renameE d a b)) ∧ PairTo w0 w w' p q (renameD d a b) m X := by
  obtain ⟨F, M, es, A, c, h⟩ := h
  exact (own_rename h.own a b hsa hsb hd).mono fun e w' ⟨he, h1, ht⟩ => ⟨he, h.own_step h1 ht⟩
theorem pair_remove (s : ByteArray) (hs : s.size ≤ 9223372036854775807) (hd : d.deeds ≤ 1000000000) :
    Calls Try.prog 17 #[.pointer (some ⟨p, 0, none⟩), .string s] w fun e w' => e = .returned (.int .i64 (removeE d s)) ∧ PairTo w0 w w' p q (removeD d s) m X := by
  obtain ⟨F, M, es, A, c, h⟩ := h
  exact (own_remove h.own s hs hd).mono fun e w' ⟨he, h1, ht⟩ => ⟨he, h.own_step h1 ht⟩
theorem pair_crash :
    Calls Try.prog 15 #[.pointer (some ⟨p, 0, none⟩)] w fun e w' => e = .returned (.tuple #[]) ∧ PairTo w0 w w' p q (crashD d) m X := by
  obtain ⟨F, M, es, A, c, h⟩ := h
  exact (own_crash h.own).mono fun e w' ⟨he, h1, ht⟩ => ⟨he, h.own_step h1 ht⟩
theorem pair_fail (n : Int) (hn : -9223372036854775808 ≤ n ∧ n ≤ 9223372036854775807) :
    Calls Try.prog 25 #[.pointer (some ⟨p, 0, none⟩), .int .i64 n] w fun e w' => e = .returned (.tuple #[]) ∧ PairTo w0 w w' p q (failD d n) m X := by
  obtain ⟨F, M, es, A, c, h⟩ := h
  exact (own_fail h.own n hn).mono fun e w' ⟨he, h1, ht⟩ => ⟨he, h.own_step h1 ht⟩
theorem pair_on (K : Option Addr) (ks : List Int) (ck : Nat) (hK : IntsAt w K ks) (hc : ks.length ≤ ck) (hcm : ck ≤ 9223372036854775807) (hKX : ∀ ad, K = some ad → 0 < ks.length → X ad.block ∨ ad.block < w0.heap.size) (hd : d.deeds ≤ 1000000000) :
    Calls Try.prog 16 #[.pointer (some ⟨p, 0, none⟩), .slice K ks.length ck] w fun e w' => e = .returned (.tuple #[]) ∧ PairTo w0 w w' p q (onD d ks) m X := by
  obtain ⟨F, M, es, A, c, h⟩ := h
  refine (own_on h.own K ks ck hK hc hcm (fun ad e h0 hF => ?_) hd).mono fun e w' ⟨he, h1, ht⟩ => ⟨he, h.own_step h1 ht⟩
  rcases hKX ad e h0 with h2 | h2
  · exact (h.ex _ h2).2.1 hF
  · have := (h.own.mine _ hF).1; omega
/-- what is read lies in new memory -/
theorem pair_read (s : ByteArray) (hs : s.size ≤ 9223372036854775807) :
    Calls Try.prog 21 #[.pointer (some ⟨p, 0, none⟩), .string s] w fun e w' => ∃ A c, e = .returned (.tuple #[.slice A (readB d s).length c, .int .i64 (findE d s [])]) ∧ Bytes w' A (readB d s) ∧ (∀ ad, A = some ad → w.heap.size ≤ ad.block) ∧ Below w.heap.size w w' := by
  obtain ⟨F, M, es, A, c, h⟩ := h
  exact (own_read h.own s hs).mono fun e w' ⟨A, c, he, h1, h2, _, h3⟩ => ⟨A, c, he, h1, h2, h3⟩
/-! the verifier's -/
variable (hm : Fine m)
include hm
theorem pref_append (s : ByteArray) (B : Addr) (bs : List Nat) (cb : Nat) (hB : Bytes w (some B) bs) (hs : s.size ≤ 9223372036854775807) (hb : bs.length ≤ 1000000000) :
    Calls Try.prog 23 #[.pointer (some ⟨q, 0, none⟩), .string s, .slice (some B) bs.length cb] w fun e w' => e = .returned (.int .i64 (appE m s bs.length)) ∧ PairTo w0 w w' p q d (appD m s bs) X := by
  obtain ⟨F, M, es, A, c, h⟩ := h
  exact (ref_append h.ref (fun k hk => (h.mine k hk).2) s B bs cb hB hs hb hm.deeds (by rw [h.ref.es_len]; exact hm.few) hm.len hm.used).mono fun e w' ⟨he, h1⟩ => ⟨he, h.ref_step h1⟩
theorem pref_sync (s : ByteArray) (hs : s.size ≤ 9223372036854775807) :
    Calls Try.prog 24 #[.pointer (some ⟨q, 0, none⟩), .string s] w fun e w' => e = .returned (.int .i64 (syncE m s)) ∧ PairTo w0 w w' p q d (syncD m s) X := by
  obtain ⟨F, M, es, A, c, h⟩ := h
  exact (ref_sync h.ref (fun k hk => (h.mine k hk).2) s hs hm.deeds (by rw [h.ref.es_len]; exact hm.few) (fun n x hx => by have := hm.len n x hx; omega)).mono fun e w' ⟨he, h1⟩ => ⟨he, h.ref_step h1⟩
theorem pref_cut (s : ByteArray) (n : Int) (hs : s.size ≤ 9223372036854775807) (hn : -9223372036854775808 ≤ n ∧ n ≤ 9223372036854775807) :
    Calls Try.prog 44 #[.pointer (some ⟨q, 0, none⟩), .string s, .int .i64 n] w fun e w' => e = .returned (.int .i64 (cutE m s n)) ∧ PairTo w0 w w' p q d (cutD m s n) X := by
  obtain ⟨F, M, es, A, c, h⟩ := h
  exact (ref_cut h.ref (fun k hk => (h.mine k hk).2) s n hs hm.deeds (by rw [h.ref.es_len]; exact hm.few) (fun n x hx => by have := hm.len n x hx; omega) hn).mono fun e w' ⟨he, h1⟩ => ⟨he, h.ref_step h1⟩
theorem pref_rename (s t : ByteArray) (hs : s.size ≤ 9223372036854775807) (ht : t.size ≤ 9223372036854775807) :
    Calls Try.prog 45 #[.pointer (some ⟨q, 0, none⟩), .string s, .string t] w fun e w' => e = .returned (.int .i64 (renameE m s t)) ∧ PairTo w0 w w' p q d (renameD m s t) X := by
  obtain ⟨F, M, es, A, c, h⟩ := h
  exact (ref_rename h.ref (fun k hk => (h.mine k hk).2) s t hs ht hm.deeds (by rw [h.ref.es_len]; exact hm.few) (fun n x hx => by have := hm.len n x hx; omega)).mono fun e w' ⟨he, h1⟩ => ⟨he, h.ref_step h1⟩
theorem pref_remove (s : ByteArray) (hs : s.size ≤ 9223372036854775807) :
    Calls Try.prog 46 #[.pointer (some ⟨q, 0, none⟩), .string s] w fun e w' => e = .returned (.int .i64 (removeE m s)) ∧ PairTo w0 w w' p q d (removeD m s) X := by
  obtain ⟨F, M, es, A, c, h⟩ := h
  exact (ref_remove h.ref (fun k hk => (h.mine k hk).2) s hs hm.deeds (by rw [h.ref.es_len]; exact hm.few)).mono fun e w' ⟨he, h1⟩ => ⟨he, h.ref_step h1⟩
omit hm in
theorem pref_crash :
    Calls Try.prog 49 #[.pointer (some ⟨q, 0, none⟩)] w fun e w' => e = .returned (.tuple #[]) ∧ PairTo w0 w w' p q d (crashD m) X := by
  obtain ⟨F, M, es, A, c, h⟩ := h
  exact (ref_crash h.ref).mono fun e w' ⟨he, h1, ht, _⟩ => ⟨he, h.ref_step (h1.to ht h.ref.free h.ref.row.lt)⟩
omit hm in
theorem pref_fail (n : Int) (hn : -9223372036854775808 ≤ n ∧ n ≤ 9223372036854775807) :
    Calls Try.prog 48 #[.pointer (some ⟨q, 0, none⟩), .int .i64 n] w fun e w' => e = .returned (.tuple #[]) ∧ PairTo w0 w w' p q d (failD m n) X := by
  obtain ⟨F, M, es, A, c, h⟩ := h
  exact (ref_fail h.ref n hn).mono fun e w' ⟨he, h1, ht, _⟩ => ⟨he, h.ref_step (h1.to ht h.ref.free h.ref.row.lt)⟩
theorem pref_on (K : Option Addr) (ks : List Int) (ck : Nat) (hK : IntsAt w K ks) (hc : ks.length ≤ ck) (hcm : ck ≤ 9223372036854775807) (hKX : ∀ ad, K = some ad → 0 < ks.length → X ad.block ∨ ad.block < w0.heap.size) (hSo : m.off = true → SortF (onF (wishOf ks) 0 m.fs)) :
    Calls Try.prog 50 #[.pointer (some ⟨q, 0, none⟩), .slice K ks.length ck] w fun e w' => e = .returned (.tuple #[]) ∧ PairTo w0 w w' p q d (onD m ks) X := by
  obtain ⟨F, M, es, A, c, h⟩ := h
  by_cases ho : m.off = true
  · refine (ref_on_gone h.ref (fun k hk => (h.mine k hk).2) ho K ks ck hK hc hcm (fun ad e h0 hq => ?_) (by rw [h.ref.es_len]; exact hm.few) (fun x hx => ?_) (hSo ho)).mono fun e w' ⟨he, h1⟩ => ⟨he, h.ref_step h1⟩
    · rcases hKX ad e h0 with h2 | h2
      · exact (h.ex _ h2).2.2.2 hq
      · have := h.qm; omega
    · have hg : getF x.key.1 m.fs = some x.key.2 := getF_of_mem h.ref.sort (by rw [h.ref.fs]; exact List.mem_map_of_mem hx)
      exact ⟨hm.sure _ _ hg, hm.len _ _ hg⟩
  · exact (ref_on_on h.ref (by simpa using ho) K ks ck).mono fun e w' ⟨he, h1⟩ => ⟨he, h.ref_step h1⟩
theorem pref_read (s : ByteArray) (hs : s.size ≤ 9223372036854775807) :
    Calls Try.prog 47 #[.pointer (some ⟨q, 0, none⟩), .string s] w fun e w' => ∃ A c, e = .returned (.tuple #[.slice A (readB m s).length c, .int .i64 (findE m s [])]) ∧ Bytes w' A (readB m s) ∧ PairTo w0 w w' p q d m X := by
  obtain ⟨F, M, es, A, c, h⟩ := h
  exact (ref_read h.ref (fun k hk => (h.mine k hk).2) s hs hm.deeds (by rw [h.ref.es_len]; exact hm.few) (fun n x hx => by have := hm.len n x hx; omega)).mono fun e w' ⟨A, c, he, h1, h2⟩ => ⟨A, c, he, h1, h.ref_step h2⟩
end
end
end Go.Proofs.Ytiagoaaldpajmaa
