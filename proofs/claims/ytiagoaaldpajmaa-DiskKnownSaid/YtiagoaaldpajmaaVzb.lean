/- Several texts in one: Pair, Key, Do. -/
import Derived.Test.YtiagoaaldpajmaaVza
import Derived.Test.YtiagoaaldpajmaaVw
import Derived.Test.YtiagoaaldpajmaaVq
import Derived.Test.YtiagoaaldpajmaaVz
namespace Go.Proofs.Ytiagoaaldpajmaa
open Go.ChangeShapes Go.WideShapes Go.ChangeAt Go.RowKit Go.BigFrame Go.Maps Go.Sort
set_option linter.unusedVariables false
structure PairAt (w0 w : World) (p q : Nat) (d m : DM) (X F M : Nat → Prop) (es : List En) (A : Option Addr) (c : Nat) : Prop where
  own : OwnF w0 w p d F
  ref : RefAt w q m es A c M
  mine : ∀ k, M k → w0.heap.size ≤ k ∧ k < w.heap.size
  qm : w0.heap.size ≤ q
  apart : ∀ k, F k → ¬ M k ∧ k ≠ q
  ex : ∀ k, X k → k < w.heap.size ∧ ¬ F k ∧ ¬ M k ∧ k ≠ q
/-- both are there, made since w0, apart, and apart from the blocks X -/
def Pair (w0 w : World) (p q : Nat) (d m : DM) (X : Nat → Prop) : Prop := ∃ F M es A c, PairAt w0 w p q d m X F M es A c
/-- the blocks that a step may touch -/
def Away (w0 : World) (X : Nat → Prop) (k : Nat) : Prop := w0.heap.size ≤ k ∧ ¬ X k
/-- what a step leaves -/
def PairTo (w0 w w' : World) (p q : Nat) (d m : DM) (X : Nat → Prop) : Prop := Pair w0 w' p q d m X ∧ Touch (Away w0 X) w w'
/-- sizes that are such -/
structure Fine (m : DM) : Prop where
  deeds : m.deeds ≤ 1000000000
  few : m.fs.length ≤ 1000000
  len : ∀ n x, getF n m.fs = some x → x.b.length ≤ 8388608
  sure : ∀ n x, getF n m.fs = some x → x.sure ≤ x.b.length
  used : usedF m.fs ≤ 1000000000000
section
variable {w0 w w' w1 w2 : World} {p q : Nat} {d d' m m' : DM} {X Y F M : Nat → Prop} {es : List En} {A : Option Addr} {c : Nat}
theorem PairAt.own_step (h : PairAt w0 w p q d m X F M es A c) (h1 : OwnF w0 w' p d' (Ext F w w')) (ht : Touch F w w') : PairTo w0 w w' p q d' m X := by
  have hq := h.ref.row.lt
  have hs := ht.size
  refine ⟨⟨Ext F w w', M, es, A, c, h1, h.ref.touch ht (fun k hM hF => (h.apart k hF).1 hM) (fun hq => (h.apart _ hq).2 rfl), fun k hk => ⟨(h.mine k hk).1, by have := (h.mine k hk).2; omega⟩, h.qm, ?_, ?_⟩, ht.mono fun k hk => ⟨(h.own.mine k hk).1, fun hx => (h.ex k hx).2.1 hk⟩⟩
  · rintro k (hk | hk)
    · exact h.apart k hk
    · exact ⟨fun hM => by have := (h.mine k hM).2; omega, by omega⟩
  · intro k hx
    obtain ⟨h1, h2, h3, h4⟩ := h.ex k hx
    refine ⟨by omega, ?_, h3, h4⟩
    rintro (hk | hk)
    · exact h2 hk
    · omega
theorem PairAt.ref_step (h : PairAt w0 w p q d m X F M es A c) (hr : RefTo w w' q m' M) : PairTo w0 w w' p q d m' X := by
  obtain ⟨es', A', c', hR, ht⟩ := hr
  have hq := h.ref.row.lt
  have hs := ht.size
  refine ⟨⟨F, Since M w w', es', A', c', h.own.stay ht (fun k hk e => (h.apart k hk).2 e) (by rintro k rfl; exact h.qm), hR, ?_, h.qm, ?_, ?_⟩, ht.mono ?_⟩
  · rintro k (hk | hk)
    · exact ⟨(h.mine k hk).1, by have := (h.mine k hk).2; omega⟩
    · exact ⟨by have := h.own.below.size; omega, hk.2⟩
  · intro k hk
    refine ⟨?_, (h.apart k hk).2⟩
    rintro (hM | hM)
    · exact (h.apart k hk).1 hM
    · have := (h.own.mine k hk).2; omega
  · intro k hx
    obtain ⟨h1, h2, h3, h4⟩ := h.ex k hx
    refine ⟨by omega, h2, ?_, h4⟩
    rintro (hM | hM)
    · exact h3 hM
    · omega
  · rintro k rfl
    exact ⟨h.qm, fun hx => (h.ex _ hx).2.2.2 rfl⟩
theorem Pair.size (h : Pair w0 w p q d m X) : w0.heap.size ≤ w.heap.size := by
  obtain ⟨F, M, es, A, c, h⟩ := h; exact h.own.below.size
theorem Pair.below (h : Pair w0 w p q d m X) : Below w0.heap.size w0 w := by
  obtain ⟨F, M, es, A, c, h⟩ := h; exact h.own.below
theorem Pair.exlt (h : Pair w0 w p q d m X) : ∀ k, X k → k < w.heap.size := by
  obtain ⟨F, M, es, A, c, h⟩ := h; exact fun k hk => (h.ex k hk).1
theorem Pair.made (h : Pair w0 w p q d m X) (hb : Below w.heap.size w w') : Pair w0 w' p q d m X := by
  obtain ⟨F, M, es, A, c, h⟩ := h
  have hs := hb.size
  exact ⟨F, M, es, A, c, h.own.made hb, h.ref.still (Touch.of_below hb), fun k hk => ⟨(h.mine k hk).1, by have := (h.mine k hk).2; omega⟩, h.qm, h.apart, fun k hk => ⟨by have := (h.ex k hk).1; omega, (h.ex k hk).2⟩⟩
/-- what was made is kept apart, too -/
theorem Pair.more (h : Pair w0 w p q d m X) (hb : Below w.heap.size w w') : Pair w0 w' p q d m (fun k => X k ∨ (w.heap.size ≤ k ∧ k < w'.heap.size)) := by
  obtain ⟨F, M, es, A, c, h⟩ := h
  have hs := hb.size
  have hq := h.ref.row.lt
  refine ⟨F, M, es, A, c, h.own.made hb, h.ref.still (Touch.of_below hb), fun k hk => ⟨(h.mine k hk).1, by have := (h.mine k hk).2; omega⟩, h.qm, h.apart, ?_⟩
  rintro k (hk | hk)
  · exact ⟨by have := (h.ex k hk).1; omega, (h.ex k hk).2⟩
  · exact ⟨hk.2, fun hF => by have := (h.own.mine k hF).2; omega, fun hM => by have := (h.mine k hM).2; omega, by omega⟩
theorem Pair.less (h : Pair w0 w p q d m X) (hY : ∀ k, Y k → X k) : Pair w0 w p q d m Y := by
  obtain ⟨F, M, es, A, c, h⟩ := h
  exact ⟨F, M, es, A, c, h.own, h.ref, h.mine, h.qm, h.apart, fun k hk => h.ex k (hY k hk)⟩
/-- a block of X is written to -/
theorem Pair.write (h : Pair w0 w p q d m X) {k : Nat} (hk : X k) (h0 : w0.heap.size ≤ k) (ht : Touch (· = k) w w') : Pair w0 w' p q d m X := by
  obtain ⟨F, M, es, A, c, h⟩ := h
  have hs := ht.size
  obtain ⟨h1, h2, h3, h4⟩ := h.ex k hk
  exact ⟨F, M, es, A, c, h.own.stay ht (by rintro i hi rfl; exact h2 hi) (by rintro i rfl; exact h0), h.ref.touch ht (by rintro i hi rfl; exact h3 hi) (by rintro rfl; exact h4 rfl), fun k hk => ⟨(h.mine k hk).1, by have := (h.mine k hk).2; omega⟩, h.qm, h.apart, fun k hk => ⟨by have := (h.ex k hk).1; omega, (h.ex k hk).2⟩⟩
theorem PairTo.refl (h : Pair w0 w p q d m X) : PairTo w0 w w p q d m X := ⟨h, Touch.refl _ _⟩
theorem PairTo.trans (h : Touch (Away w0 X) w w1) (k : PairTo w0 w1 w2 p q d m X) : PairTo w0 w w2 p q d m X := ⟨k.1, h.trans k.2⟩
theorem Fine.of_own (h : OwnF w0 w p d F) (hd : d.deeds ≤ 1000000) (hr : d.room ≤ 1000000000000) : Fine d ∧ (SortF d.fs) := by
  obtain ⟨mm, g, v, hD⟩ := h.disk
  exact ⟨⟨by omega, by have := hD.few; omega, hD.ok.len, hD.ok.sure, by have := hD.used; omega⟩, hD.ok.sort⟩
theorem Pair.fine (h : Pair w0 w p q d m X) (hd : d.deeds ≤ 1000000) (hr : d.room ≤ 1000000000000) : Fine d ∧ SortF d.fs := by
  obtain ⟨F, M, es, A, c, h⟩ := h; exact Fine.of_own h.own hd hr
theorem RefAt.es_len (h : RefAt w q m es A c M) : es.length = m.fs.length := by rw [h.fs, List.length_map]
/-! the program's calls -/
section
variable (h : Pair w0 w p q d m X)
include h
theorem pair_append (s : ByteArray) (B : Addr) (bs : List Nat) (cb : Nat) (hB : Bytes w (some B) bs) (hX : X B.block) (hs : s.size ≤ 9223372036854775807) (hb : bs.length ≤ 1000000000) (hd : d.deeds ≤ 1000000000) :
    Calls Try.prog 14 #[.pointer (some ⟨p, 0, none⟩), .string s, .slice (some B) bs.length cb] w fun e w' => e = .returned (.int .i64 (appE d s bs.length)) ∧ PairTo w0 w w' p q (appD d s bs) m X := by
  obtain ⟨F, M, es, A, c, h⟩ := h
  exact (own_append h.own s B bs cb hB (fun _ => (h.ex _ hX).2.1) hs hb hd).mono fun e w' ⟨he, h1, ht⟩ => ⟨he, h.own_step h1 ht⟩
theorem pair_sync (s : ByteArray) (hs : s.size ≤ 9223372036854775807) (hd : d.deeds ≤ 1000000000) :
    Calls Try.prog 20 #[.pointer (some ⟨p, 0, none⟩), .string s] w fun e w' => e = .returned (.int .i64 (syncE d s)) ∧ PairTo w0 w w' p q (syncD d s) m X := by
  obtain ⟨F, M, es, A, c, h⟩ := h
  exact (own_sync h.own s hs hd).mono fun e w' ⟨he, h1, ht⟩ => ⟨he, h.own_step h1 ht⟩
theorem pair_cut (s : ByteArray) (n : Int) (hs : s.size ≤ 9223372036854775807) (hn : -9223372036854775808 ≤ n ∧ n ≤ 9223372036854775807) (hd : d.deeds ≤ 1000000000) :
    Calls Try.prog 30 #[.pointer (some ⟨p, 0, none⟩), .string s, .int .i64 n] w fun e w' => e = .returned (.int .i64 (cutE d s n)) ∧ PairTo w0 w w' p q (cutD d s n) m X := by
  obtain ⟨F, M, es, A, c, h⟩ := h
  exact (own_cut h.own s n hs hn hd).mono fun e w' ⟨he, h1, ht⟩ => ⟨he, h.own_step h1 ht⟩
theorem pair_rename (a b : ByteArray) (hsa : a.size ≤ 9223372036854775807) (hsb : b.size ≤ 9223372036854775807) (hd : d.deeds ≤ 1000000000) :
    Calls Try.prog 26 #[.pointer (some ⟨p, 0, none⟩), .string a, .string b] w fun e w' => e = .returned (.int .i64 (renameE d a b)) ∧ PairTo w0 w w' p q (renameD d a b) m X := by
  obtain ⟨F, M, es, A, c, h⟩ := h
  exact (own_rename h.own a b hsa hsb hd).mono fun e w' ⟨he, h1, ht⟩ => ⟨he, h.own_step h1 ht⟩
theorem pair_remove (s : ByteArray) (hs : s.size ≤ 9223372036854775807) (hd : d.deeds ≤ 1000000000) :
    Calls Try.prog 17 #[.pointer (some ⟨p, 0, none⟩), .string s] w fun e w' => e = .returned (.int .i64 (removeE d s)) ∧ PairTo w0 w w' p q (removeD d s) m X := by
  obtain ⟨F, M, es, A, c, h⟩ := h
  exact (own_remove h.own s hs hd).mono fun e w' ⟨he, h1, ht⟩ => ⟨he, h.own_step h1 ht⟩
theorem pair_crash :
    Calls Try.prog 15 #[.pointer (some ⟨p, 0, none⟩)] w fun e w' => e = .returned (.tuple #[]) ∧ PairTo w0 w w' p q (crashD d) m X := by
  obtain ⟨F, M, es, A, c, h⟩ := h
  exact (own_crash h.own).mono fun e w' ⟨he, h1, ht⟩ => ⟨he, h.own_step h1 ht⟩
theorem pair_fail (n : Int) (hn : -9223372036854775808 ≤ n ∧ n ≤ 9223372036854775807) :
    Calls Try.prog 25 #[.pointer (some ⟨p, 0, none⟩), .int .i64 n] w fun e w' => e = .returned (.tuple #[]) ∧ PairTo w0 w w' p q (failD d n) m X := by
  obtain ⟨F, M, es, A, c, h⟩ := h
  exact (own_fail h.own n hn).mono fun e w' ⟨he, h1, ht⟩ => ⟨he, h.own_step h1 ht⟩
theorem pair_on (K : Option Addr) (ks : List Int) (ck : Nat) (hK : IntsAt w K ks) (hc : ks.length ≤ ck) (hcm : ck ≤ 9223372036854775807) (hKX : ∀ ad, K = some ad → 0 < ks.length → X ad.block ∨ ad.block < w0.heap.size) (hd : d.deeds ≤ 1000000000) :
    Calls Try.prog 16 #[.pointer (some ⟨p, 0, none⟩), .slice K ks.length ck] w fun e w' => e = .returned (.tuple #[]) ∧ PairTo w0 w w' p q (onD d ks) m X := by
  obtain ⟨F, M, es, A, c, h⟩ := h
  refine (own_on h.own K ks ck hK hc hcm (fun ad e h0 hF => ?_) hd).mono fun e w' ⟨he, h1, ht⟩ => ⟨he, h.own_step h1 ht⟩
  rcases hKX ad e h0 with h2 | h2
  · exact (h.ex _ h2).2.1 hF
  · have := (h.own.mine _ hF).1; omega
/-- what is read lies in new memory -/
theorem pair_read (s : ByteArray) (hs : s.size ≤ 9223372036854775807) :
    Calls Try.prog 21 #[.pointer (some ⟨p, 0, none⟩), .string s] w fun e w' => ∃ A c, e = .returned (.tuple #[.slice A (readB d s).length c, .int .i64 (findE d s [])]) ∧ Bytes w' A (readB d s) ∧ (∀ ad, A = some ad → w.heap.size ≤ ad.block) ∧ Below w.heap.size w w' := by
  obtain ⟨F, M, es, A, c, h⟩ := h
  exact (own_read h.own s hs).mono fun e w' ⟨A, c, he, h1, h2, _, h3⟩ => ⟨A, c, he, h1, h2, h3⟩
/-! the verifier's -/
variable (hm : Fine m)
include hm
theorem pref_append (s : ByteArray) (B : Addr) (bs : List Nat) (cb : Nat) (hB : Bytes w (some B) bs) (hs : s.size ≤ 9223372036854775807) (hb : bs.length ≤ 1000000000) :
    Calls Try.prog 23 #[.pointer (some ⟨q, 0, none⟩), .string s, .slice (some B) bs.length cb] w fun e w' => e = .returned (.int .i64 (appE m s bs.length)) ∧ PairTo w0 w w' p q d (appD m s bs) X := by
  obtain ⟨F, M, es, A, c, h⟩ := h
  exact (ref_append h.ref (fun k hk => (h.mine k hk).2) s B bs cb hB hs hb hm.deeds (by rw [h.ref.es_len]; exact hm.few) hm.len hm.used).mono fun e w' ⟨he, h1⟩ => ⟨he, h.ref_step h1⟩
theorem pref_sync (s : ByteArray) (hs : s.size ≤ 9223372036854775807) :
    Calls Try.prog 24 #[.pointer (some ⟨q, 0, none⟩), .string s] w fun e w' => e = .returned (.int .i64 (syncE m s)) ∧ PairTo w0 w w' p q d (syncD m s) X := by
  obtain ⟨F, M, es, A, c, h⟩ := h
  exact (ref_sync h.ref (fun k hk => (h.mine k hk).2) s hs hm.deeds (by rw [h.ref.es_len]; exact hm.few) (fun n x hx => by have := hm.len n x hx; omega)).mono fun e w' ⟨he, h1⟩ => ⟨he, h.ref_step h1⟩
theorem pref_cut (s : ByteArray) (n : Int) (hs : s.size ≤ 9223372036854775807) (hn : -9223372036854775808 ≤ n ∧ n ≤ 9223372036854775807) :
    Calls Try.prog 44 #[.pointer (some ⟨q, 0, none⟩), .string s, .int .i64 n] w fun e w' => e = .returned (.int .i64 (cutE m s n)) ∧ PairTo w0 w w' p q d (cutD m s n) X := by
  obtain ⟨F, M, es, A, c, h⟩ := h
  exact (ref_cut h.ref (fun k hk => (h.mine k hk).2) s n hs hm.deeds (by rw [h.ref.es_len]; exact hm.few) (fun n x hx => by have := hm.len n x hx; omega) hn).mono fun e w' ⟨he, h1⟩ => ⟨he, h.ref_step h1⟩
theorem pref_rename (s t : ByteArray) (hs : s.size ≤ 9223372036854775807) (ht : t.size ≤ 9223372036854775807) :
    Calls Try.prog 45 #[.pointer (some ⟨q, 0, none⟩), .string s, .string t] w fun e w' => e = .returned (.int .i64 (renameE m s t)) ∧ PairTo w0 w w' p q d (renameD m s t) X := by
  obtain ⟨F, M, es, A, c, h⟩ := h
  exact (ref_rename h.ref (fun k hk => (h.mine k hk).2) s t hs ht hm.deeds (by rw [h.ref.es_len]; exact hm.few) (fun n x hx => by have := hm.len n x hx; omega)).mono fun e w' ⟨he, h1⟩ => ⟨he, h.ref_step h1⟩
theorem pref_remove (s : ByteArray) (hs : s.size ≤ 9223372036854775807) :
    Calls Try.prog 46 #[.pointer (some ⟨q, 0, none⟩), .string s] w fun e w' => e = .returned (.int .i64 (removeE m s)) ∧ PairTo w0 w w' p q d (removeD m s) X := by
  obtain ⟨F, M, es, A, c, h⟩ := h
  exact (ref_remove h.ref (fun k hk => (h.mine k hk).2) s hs hm.deeds (by rw [h.ref.es_len]; exact hm.few)).mono fun e w' ⟨he, h1⟩ => ⟨he, h.ref_step h1⟩
omit hm in
theorem pref_crash :
    Calls Try.prog 49 #[.pointer (some ⟨q, 0, none⟩)] w fun e w' => e = .returned (.tuple #[]) ∧ PairTo w0 w w' p q d (crashD m) X := by
  obtain ⟨F, M, es, A, c, h⟩ := h
  exact (ref_crash h.ref).mono fun e w' ⟨he, h1, ht, _⟩ => ⟨he, h.ref_step (h1.to ht h.ref.free h.ref.row.lt)⟩
omit hm in
theorem pref_fail (n : Int) (hn : -9223372036854775808 ≤ n ∧ n ≤ 9223372036854775807) :
    Calls Try.prog 48 #[.pointer (some ⟨q, 0, none⟩), .int .i64 n] w fun e w' => e = .returned (.tuple #[]) ∧ PairTo w0 w w' p q d (failD m n) X := by
  obtain ⟨F, M, es, A, c, h⟩ := h
  exact (ref_fail h.ref n hn).mono fun e w' ⟨he, h1, ht, _⟩ => ⟨he, h.ref_step (h1.to ht h.ref.free h.ref.row.lt)⟩
theorem pref_on (K : Option Addr) (ks : List Int) (ck : Nat) (hK : IntsAt w K ks) (hc : ks.length ≤ ck) (hcm : ck ≤ 9223372036854775807) (hKX : ∀ ad, K = some ad → 0 < ks.length → X ad.block ∨ ad.block < w0.heap.size) (hSo : m.off = true → SortF (onF (wishOf ks) 0 m.fs)) :
    Calls Try.prog 50 #[.pointer (some ⟨q, 0, none⟩), .slice K ks.length ck] w fun e w' => e = .returned (.tuple #[]) ∧ PairTo w0 w w' p q d (onD m ks) X := by
  obtain ⟨F, M, es, A, c, h⟩ := h
  by_cases ho : m.off = true
  · refine (ref_on_gone h.ref (fun k hk => (h.mine k hk).2) ho K ks ck hK hc hcm (fun ad e h0 hq => ?_) (by rw [h.ref.es_len]; exact hm.few) (fun x hx => ?_) (hSo ho)).mono fun e w' ⟨he, h1⟩ => ⟨he, h.ref_step h1⟩
    · rcases hKX ad e h0 with h2 | h2
      · exact (h.ex _ h2).2.2.2 hq
      · have := h.qm; omega
    · have hg : getF x.key.1 m.fs = some x.key.2 := getF_of_mem h.ref.sort (by rw [h.ref.fs]; exact List.mem_map_of_mem hx)
      exact ⟨hm.sure _ _ hg, hm.len _ _ hg⟩
  · exact (ref_on_on h.ref (by simpa using ho) K ks ck).mono fun e w' ⟨he, h1⟩ => ⟨he, h.ref_step h1⟩
theorem pref_read (s : ByteArray) (hs : s.size ≤ 9223372036854775807) :
    Calls Try.prog 47 #[.pointer (some ⟨q, 0, none⟩), .string s] w fun e w' => ∃ A c, e = .returned (.tuple #[.slice A (readB m s).length c, .int .i64 (findE m s [])]) ∧ Bytes w' A (readB m s) ∧ PairTo w0 w w' p q d m X := by
  obtain ⟨F, M, es, A, c, h⟩ := h
  exact (ref_read h.ref (fun k hk => (h.mine k hk).2) s hs hm.deeds (by rw [h.ref.es_len]; exact hm.few) (fun n x hx => by have := hm.len n x hx; omega)).mono fun e w' ⟨A, c, he, h1, h2⟩ => ⟨A, c, he, h1, h.ref_step h2⟩
end
end
end Go.Proofs.Ytiagoaaldpajmaa
namespace Go.Proofs.Ytiagoaaldpajmaa
namespace Free
section
variable {P : Program}
def updb (b : Nat → Bool) (i : Nat) : Nat → Bool := fun j => if j = i then true else b j
def updw (vs : Nat → Value) (i : Nat) (v : Value) : Nat → Value := fun j => if j = i then v else vs j
theorem updb_self {b : Nat → Bool} {i : Nat} : updb b i i = true := if_pos rfl
theorem updb_ne {b : Nat → Bool} {i j : Nat} (h : j ≠ i) : updb b i j = b j := if_neg h
theorem updw_self {vs : Nat → Value} {i : Nat} {v : Value} : updw vs i v i = v := if_pos rfl
theorem updw_ne {vs : Nat → Value} {i j : Nat} {v : Value} (h : j ≠ i) : updw vs i v j = vs j := if_neg h
/-- each order, with guards: the class F goes by which have come up and what their slots hold -/
theorem wp_key {id : Nat} {Q : Exit → Act → World → Prop} {a0 : Act} {w0 : World} {l : List Oper} (hm : P.follows .mixedOrders = true) (hB : okG l a0.tmps.size = true)
    (F : (Nat → Bool) → (Nat → Value) → World → Prop) (V : Nat → Value → Prop) (hF : ∀ vs, F (fun i => decide (l.length ≤ i)) vs w0.drew)
    (hstep : ∀ i o, l[i]? = some o → ∀ (b : Nat → Bool) (vs : Nat → Value) (a : Act) (w : World), (∀ t, t ∉ dsts l → a.eval (.tmp t) = a0.eval (.tmp t)) →
      (∀ j oj t, Region.waitsFor .any l.toArray i j = true → l[j]? = some oj → oj.dst = some t → b j = true ∧ a.eval (.tmp t) = vs j ∧ V j (a.eval (.tmp t))) → b i = false → F b vs w →
      Comes P l a o w (fun v w' => V i v ∧ F (updb b i) (updw vs i v) w'))
    (hend : ∀ (vs : Nat → Value) (w' : World), (∀ i, i < l.length → (∀ o, l[i]? = some o → o.dst.isSome = true) → V i (vs i)) → F (fun _ => true) vs w' → Q .normal (puts a0 l 0 vs) w') : (Code.region id l.toArray true).wp P Q a0 w0 := by
  simp only [okG, Bool.and_eq_true, decide_eq_true_eq] at hB
  obtain ⟨⟨hns, hnd⟩, hlt⟩ := hB
  have hlt' : ∀ t ∈ dsts l, t < a0.tmps.size := fun t ht => by simpa using List.all_eq_true.1 hlt t ht
  let Inv : Array Bool → Act → World → Prop := fun S a w => a.defers = a0.defers ∧ a.tmps.size = a0.tmps.size ∧ (∀ t, t ∉ dsts l → a.tmps.getD t undef = a0.tmps.getD t undef) ∧
    (∃ vs, F (fun i => S.getD i true) vs w ∧ ∀ i o t, l[i]? = some o → S.getD i false = true → o.dst = some t → a.tmps.getD t undef = vs i) ∧
    ∀ i o t, l[i]? = some o → S.getD i false = true → o.dst = some t → V i (a.tmps.getD t undef)
  have main : ∀ (fuel : Nat) (S : Array Bool) (a : Act) (w : World), S.toList.count false = fuel → Stage.Fit .any l.toArray S → Inv S a w → wpAny P .any l.toArray Q fuel S a w := by
    intro fuel
    have fin : ∀ (S : Array Bool) (a : Act) (w : World), Stage.Fit .any l.toArray S → (∀ i, S.getD i true = true) → Inv S a w → Q .normal a w := by
      rintro S a w hFit hS ⟨h1, h2, h3, ⟨vs, h4, h4'⟩, h5⟩
      have hSi : ∀ i, i < l.length → S.getD i false = true := fun i hi => by
        have h1 := hS i
        have : i < S.size := by rw [hFit.size]; simpa using hi
        simp [this] at h1 ⊢; exact h1
      have e : a = puts a0 l 0 vs := by
        have hp := puts_size l a0 0 vs
        refine act_ext (h1.trans hp.2.symm) (h2.trans hp.1.symm) (fun t ht => ?_)
        by_cases hm : t ∈ dsts l
        · obtain ⟨o, ho, e⟩ := List.mem_filterMap.1 hm
          obtain ⟨i, hi⟩ := List.getElem?_of_mem ho
          rw [puts_new l a0 0 _ i o t hnd hi e (hlt' t hm), Nat.zero_add]
          exact h4' i o t hi (hSi i (List.getElem?_eq_some_iff.1 hi).1) e
        · rw [puts_old _ _ _ _ _ hm]; exact h3 t hm
      rw [e]
      refine hend _ w (fun i hi hd => ?_) (by rw [show (fun i => S.getD i true) = fun _ => true from funext hS] at h4; exact h4)
      have hi' : l[i]? = some l[i] := List.getElem?_eq_getElem hi
      obtain ⟨t, ht⟩ := Option.isSome_iff_exists.1 (hd _ hi')
      have := h5 i _ t hi' (hSi i hi) ht
      rwa [h4' i _ t hi' (hSi i hi) ht] at this
    have one : ∀ (S : Array Bool) (a : Act) (w : World) (K : Act → World → Prop), Stage.Fit .any l.toArray S → Inv S a w → ∀ i ∈ Region.ready .any l.toArray S, (∀ a' w', Inv (S.setIfInBounds i true) a' w' → K a' w') → wpOp P l.toArray Q i K a w := by
      rintro S a w K hFit ⟨h1, h2, h3, ⟨vs, h4, h4'⟩, h5⟩ i hi hK
      obtain ⟨hun, o, ho, hall⟩ := mem_ready.1 hi
      have hol : l[i]? = some o := by simpa using ho
      unfold wpOp
      simp only [ho]
      have hpre : ∀ j oj t, Region.waitsFor .any l.toArray i j = true → l[j]? = some oj → oj.dst = some t → (fun i => S.getD i true) j = true ∧ a.eval (.tmp t) = vs j ∧ V j (a.eval (.tmp t)) := by
        intro j oj t hwt hj hd
        have hc := Stage.came hi hwt
        have hSj : S.getD j false = true := by
          have hjl : j < S.size := by rw [hFit.size]; simpa using (List.getElem?_eq_some_iff.1 hj).1
          simp [hjl] at hc ⊢; exact hc
        exact ⟨hc, h4' j oj t hj hSj hd, h5 j oj t hj hSj hd⟩
      have hs := hstep i o hol _ vs a w (fun t ht => h3 t ht) hpre hun h4
      have hSs : ∀ j, (S.setIfInBounds i true).getD j true = updb (fun i => S.getD i true) i j := fun j => by
        unfold updb
        by_cases hji : j = i
        · rw [if_pos hji, hji]; exact Stage.getD_set_self hun
        · rw [if_neg hji, getD_set_ne true (Ne.symm hji)]
      have step : ∀ v w', (V i v ∧ F (updb (fun i => S.getD i true) i) (updw vs i v) w') → K (a.put o.dst v) w' := by
        rintro v w' ⟨r1, r2⟩
        refine hK _ _ ⟨by rw [put_defers]; exact h1, by rw [put_size]; exact h2, fun t ht => ?_, ⟨updw vs i v, by rw [funext hSs]; exact r2, fun j oj t hj hSj hd => ?_⟩, fun j oj t hj hSj hd => ?_⟩
        · rw [put_getD _ _ _ _ (fun e => ht (mem_dsts hol e))]; exact h3 t ht
        · by_cases hij : i = j
          · subst hij
            obtain rfl : oj = o := Option.some.inj (hj.symm.trans hol)
            rw [hd, put_getD_self _ _ _ (by rw [h2]; exact hlt' t (mem_dsts hj hd))]
            exact updw_self.symm
          · rw [getD_set_ne false hij] at hSj
            rw [put_getD _ _ _ _ (fun e => hij (dst_ne hnd hol hj e hd)), updw_ne (Ne.symm hij)]
            exact h4' j oj t hj hSj hd
        · by_cases hij : i = j
          · subst hij
            obtain rfl : oj = o := Option.some.inj (hj.symm.trans hol)
            rw [hd, put_getD_self _ _ _ (by rw [h2]; exact hlt' t (mem_dsts hj hd))]
            exact r1
          · rw [getD_set_ne false hij] at hSj
            rw [put_getD _ _ _ _ (fun e => hij (dst_ne hnd hol hj e hd))]
            exact h5 j oj t hj hSj hd
      rcases hs with ⟨hw, hs⟩ | ⟨hw, hs⟩
      case inr => rw [if_neg (by rw [hw]; exact Bool.false_ne_true)]; exact step _ _ hs
      rw [if_pos hw]
      refine .inl ?_
      unfold Oper.wp
      generalize (execOp a.eval o).run P w = r at hs
      cases r with
      | ok n w' =>
        cases n <;> simp only [gets] at hs <;> simp only [Oper.upon]
        case value u => exact step _ _ hs
        case skip => exact step _ _ hs
        case enter f args => exact hs.mono fun e w'' ⟨v, he, h⟩ => by subst he; exact step _ _ h
      | halt x w' => simp only [gets] at hs
    induction fuel with
    | zero =>
      intro S a w hn hFit hI
      have hS : ∀ i, S.getD i true = true := fun i => by rw [Stage.getD_toList]; exact Stage.all_of_count hn i
      refine ⟨?_, fin S a w hFit hS hI⟩
      cases hr : Region.ready .any l.toArray S with
      | nil => rfl
      | cons i r =>
        have := (mem_ready.1 (show i ∈ Region.ready .any l.toArray S by rw [hr]; simp)).1
        rw [hS i] at this; cases this
    | succ fuel ih =>
      intro S a w hn hFit hI
      refine ⟨fun h0 => ?_, fun i hi => ?_⟩
      · refine fin S a w hFit (fun i => ?_) hI
        induction i using Nat.strongRecOn with
        | _ i ihi =>
          cases hx : S.getD i true with
          | true => rfl
          | false =>
            exfalso
            have hil : i < l.length := by
              rcases Nat.lt_or_ge i S.size with h' | h'
              · rw [hFit.size] at h'; simpa using h'
              · simp [Array.getElem?_eq_none h'] at hx
            have hup := List.all_eq_true.1 hns i (List.mem_range.2 hil)
            rw [List.getElem?_eq_getElem hil] at hup
            have hr : i ∈ Region.ready .any l.toArray S := by
              refine mem_ready.2 ⟨hx, l[i], by simp [hil], fun e he hbe => ?_⟩
              have h1 : e.on < i := by
                have := Array.all_eq_true_iff_forall_mem.1 hup e he
                simpa [hbe] using this
              have h2 := ihi e.on h1
              have h3 : e.on < S.size := by rw [hFit.size]; simp; omega
              simp [h3] at h2 ⊢; exact h2
            rw [h0] at hr; cases hr
      · have hun := (mem_ready.1 hi).1
        have hc : (S.setIfInBounds i true).toList.count false = fuel := by
          rw [Array.toList_setIfInBounds]
          have := Stage.count_set (l := S.toList) (i := i) (by rw [← Stage.getD_toList]; exact hun)
          omega
        exact one S a w _ hFit hI i hi (fun a' w' hI' => ih _ a' w' hc (hFit.set hi) hI')
  refine wp_region_any hm (main _ _ _ _ (by simp) (by simpa using Stage.Fit.start (md := .any) (ops := l.toArray)) ⟨rfl, rfl, fun _ _ => rfl, ⟨fun _ => undef, ?_, fun i o t _ h _ => ?_⟩, fun i o t _ h _ => ?_⟩)
  · have hS0 : (fun i => (Array.replicate l.toArray.size false).getD i true) = fun i => decide (l.length ≤ i) := by
      funext i
      by_cases h : i < l.length
      · simp [h]
      · simp [h]; omega
    rw [hS0]; exact hF _
  · rw [getD_replicate_false] at h; cases h
  · rw [getD_replicate_false] at h; cases h
end
end Free
end Go.Proofs.Ytiagoaaldpajmaa
namespace Go.Proofs.Ytiagoaaldpajmaa
open Go.ChangeShapes Go.WideShapes Go.ChangeAt Go.RowKit Go.BigFrame Go.Maps Go.Sort
set_option linter.unusedVariables false
abbrev TDe : TypeId := 32
def De.row (x : De) : List Value := [.int .u8 (x.kind : Nat), .string x.name, .string x.b, .int .i64 x.n, .slice x.ka x.keep.length x.kc]
def De.val (x : De) : Value := .agg x.row.toArray
/-- what a call leaves -/
def doD (d : DM) (x : De) : DM := match x.kind with
  | 0 => appD d x.name (bl x.b)
  | 1 => syncD d x.name
  | 2 => cutD d x.name x.n
  | 3 => renameD d x.name x.b
  | 4 => removeD d x.name
  | 6 => failD d x.n
  | 7 => crashD d
  | 8 => onD d x.keep
  | _ => d
/-- the blocks kept apart, and what was made -/
def Plus (X : Nat → Prop) (w w' : World) (k : Nat) : Prop := X k ∨ (w.heap.size ≤ k ∧ k < w'.heap.size)
/-- while a call is made on either -/
def Duo (w0 w1 : World) (p q : Nat) (d d' : DM) (X : Nat → Prop) (b1 b2 : Bool) (w : World) : Prop := PairTo w0 w1 w p q (if b1 then d' else d) (if b2 then d' else d) X
section
variable {w0 w w' w1 w2 : World} {p q : Nat} {d d' m m' : DM} {X Y F M : Nat → Prop} {b1 b2 : Bool}
theorem PairTo.cell (h : PairTo w0 w w' p q d m X) {k o : Nat} (hX : X k) (hk : k < w.heap.size) : w'.cell? ⟨k, o, none⟩ = w.cell? ⟨k, o, none⟩ :=
  World.cell?_of_block (h.2.block k hk fun e => e.2 hX)
theorem PairTo.drew (h : PairTo w0 w w' p q d m X) : PairTo w0 w w'.drew p q d m X := ⟨h.1.made (Below.refl _ _).drew, h.2.drew⟩
theorem PairTo.then_ (h : PairTo w0 w w1 p q d m X) (k : PairTo w0 w1 w2 p q d' m' X) : PairTo w0 w w2 p q d' m' X := ⟨k.1, h.2.trans k.2⟩
/-- a box was made ahead -/
theorem PairTo.boxed (hb : Below w.heap.size w w1) (h : PairTo w0 w1 w2 p q d m (Plus X w w1)) : PairTo w0 w w2 p q d m X :=
  ⟨h.1.less fun _ hk => .inl hk, (Touch.of_below hb).trans (h.2.mono fun _ hk => ⟨hk.1, fun hx => hk.2 (.inl hx)⟩)⟩
theorem Duo.start (h : PairTo w0 w1 w p q d d X) : Duo w0 w1 p q d d' X false false w := h
theorem Duo.step1 (h : Duo w0 w1 p q d d' X false b2 w) (k : PairTo w0 w w' p q d' (if b2 then d' else d) X) : Duo w0 w1 p q d d' X true b2 w' := h.then_ k
theorem Duo.step2 (h : Duo w0 w1 p q d d' X b1 false w) (k : PairTo w0 w w' p q (if b1 then d' else d) d' X) : Duo w0 w1 p q d d' X b1 true w' := h.then_ k
end
namespace Stage
section
variable {P : Program} {ops : Array Oper} {md : Region.Mode} {K1 K2 : Nat} {D : Bool → Bool → World → Prop}
theorem two_keep {i : Nat} (h1 : i ≠ K1) (h2 : i ≠ K2) {o : Oper} {a : Act} {v : Value} (h : ∀ b1 b2 w, D b1 b2 w → at_ P o a (D b1 b2) w v) :
    ∀ S w, Fit md ops S → i ∈ Region.ready md ops S → two K1 K2 D S w → at_ P o a (two K1 K2 D (S.setIfInBounds i true)) w v := by
  intro S w hF hi hS
  unfold two at *
  rw [getD_set_ne true h1, getD_set_ne true h2]
  exact h _ _ w hS
end
end Stage
theorem load_int2 {w : World} {k o : Nat} {z : Int} (h : w.cell? ⟨k, o, none⟩ = some (.int .i64 z)) : (Instr.loadAt 3 (.pointer (some ⟨k, o, none⟩))).run Try.prog w = .ok (.int .i64 z) w := by
  go_simp
section
variable {w0 w w' w1 w2 : World} {p q : Nat} {d d' m m' : DM} {X Y F M : Nat → Prop}
/-- the call is boxed -/
theorem box_made (h : Pair w0 w p q d m X) (x : De) : ∃ w1, w.alloc (.cells x.row.toArray TDe) = w1 ∧ Below w.heap.size w w1 ∧ w1.heap.size = w.heap.size + 1 ∧ Row w1 w.heap.size TDe x.row ∧ Pair w0 w1 p q d m (Plus X w w1) ∧ Plus X w w1 w.heap.size := by
  have hb : Below w.heap.size w (w.alloc (.cells x.row.toArray TDe)) := (Below.refl _ _).alloc (Nat.le_refl _) _
  exact ⟨_, rfl, hb, by simp, Row.made w TDe x.row, h.more hb, .inr ⟨Nat.le_refl _, by simp⟩⟩
end
end Go.Proofs.Ytiagoaaldpajmaa
