/- Several texts in one: RoomMath, Ints, Deeds, Few, RoomOps. -/
import Derived.Test.YtiagoaaldpajmaaVu
import Derived.Deep.Slices
import Derived.Deep.Strs
import Derived.Test.YtiagoaaldpajmaaVn
import Derived.Test.YtiagoaaldpajmaaVq
namespace Go.Proofs.Ytiagoaaldpajmaa
open Go.ChangeShapes Go.WideShapes Go.ChangeAt Go.RowKit Go.BigFrame
set_option linter.unusedVariables false
def rightB (s : ByteArray) : Bool := decide (1 ≤ s.size) && decide (s.size ≤ 128)
theorem look_right {s : ByteArray} : lookE false [s] = if rightB s then 0 else 2 := by
  have e : rightB s = okName s := by
    rw [Bool.eq_iff_iff]
    simp [rightB, okName]
  simp [lookE, e]
/-- on, not armed, so many deeds at most -/
structure Roomy (q : Nat) (n : Nat) (d : DM) : Prop where
  room : d.room = q
  off : d.off = false
  fuse : d.fuse = 0
  sort : SortF d.fs
  used : usedF d.fs ≤ q
  deeds : d.deeds ≤ n
theorem room_new (q : Nat) : Roomy q 0 (newD ((q : Nat) : Int)) := ⟨by show (max ((q : Nat) : Int) 0).toNat = q; omega, rfl, rfl, List.Pairwise.nil, by simp [newD, usedF], Nat.le_refl _⟩
section
variable {q n : Nat} {d : DM} {s : ByteArray} {bs : List Nat}
theorem room_arg (h : Roomy q n d) (hs : rightB s = false) : appE d s bs.length = 2 ∧ appD d s bs = d := by
  unfold appE appD
  rw [h.off, look_right, hs]
  simp
theorem room_full (h : Roomy q n d) (hs : rightB s = true) (hq : q ≤ 65535) (hb : bs.length ≤ 300) (hf : q < usedF d.fs + bs.length) : appE d s bs.length = 31 ∧ appD d s bs = d := by
  have h1 := lenF_le (n := s.data.toList) h.sort
  have h2 := h.used
  unfold appE appD
  rw [h.off, look_right, hs, h.room]
  simp only [if_true, ne_eq, not_true_eq_false, if_false, if_neg (show ¬ 8388608 < lenF s.data.toList d.fs + bs.length by omega), if_pos hf, and_self]
theorem room_ok (h : Roomy q n d) (hs : rightB s = true) (hq : q ≤ 65535) (hb : bs.length ≤ 300) (hf : usedF d.fs + bs.length ≤ q) :
    appE d s bs.length = 0 ∧ usedF (appD d s bs).fs = usedF d.fs + bs.length ∧ (appD d s bs).deeds = d.deeds + 1 ∧ Roomy q (n + 1) (appD d s bs) := by
  have h1 := lenF_le (n := s.data.toList) h.sort
  have hfu : ¬ d.fuse = 1 := by rw [h.fuse]; decide
  have hu := usedF_append (n := s.data.toList) (bs := bs) h.sort
  have hE : appE d s bs.length = 0 := by
    unfold appE
    rw [h.off, look_right, hs, h.room]
    simp only [if_true, ne_eq, not_true_eq_false, if_false, if_neg (show ¬ 8388608 < lenF s.data.toList d.fs + bs.length by omega), if_neg (show ¬ q < usedF d.fs + bs.length by omega), if_neg hfu]
  have hD : appD d s bs = { d.tick with fs := appendF s.data.toList bs d.fs } := by
    unfold appD
    rw [h.off, look_right, hs, h.room]
    simp only [if_true, ne_eq, not_true_eq_false, if_false, if_neg (show ¬ 8388608 < lenF s.data.toList d.fs + bs.length by omega), if_neg (show ¬ q < usedF d.fs + bs.length by omega)]
  have hT : d.tick = { d with deeds := d.deeds + 1, fuse := d.fuse - 1 } := by unfold DM.tick; rw [if_neg hfu]
  refine ⟨hE, ?_, ?_, ?_⟩
  · rw [hD]; exact hu
  · rw [hD, hT]
  · rw [hD, hT]
    exact ⟨h.room, h.off, by show d.fuse - 1 = 0; rw [h.fuse], SortF.put h.sort, by show usedF (appendF _ _ _) ≤ q; rw [hu]; exact hf, by show d.deeds + 1 ≤ n + 1; have := h.deeds; omega⟩
end
end Go.Proofs.Ytiagoaaldpajmaa
namespace Go.Proofs.Ytiagoaaldpajmaa
open Go.ChangeShapes Go.WideShapes Go.ChangeAt Go.RowKit Go.BigFrame
set_option linter.unusedVariables false
section
variable {H : Type} {enc : TypeId × Value → H} {P : Program}
theorem open_ints_at {t e : TypeId} (ht : P.underlying t = some (.slice e)) (he : P.underlying e = some (.int .i64)) (hc : P.cellsOf e = 1) {W : World} {base : Nat} {v : Value} {d : DataW H} {p : List MemPlace}
    (hok : Value.okWide P W .any base t v) (h : DataW.Trod enc P W 0 (fun _ => true) true t v d p) :
    ∃ (A : Option Addr) (ks : List Int) (c : Nat), v = .slice A ks.length c ∧ IntsAt W A ks ∧ ks.length ≤ c ∧ c ≤ 9223372036854775807 ∧ (A = none → c = 0) := by
  obtain ⟨A, len, cap, rfl⟩ := okWide_slice ht hok
  obtain ⟨fuel, hf⟩ := h
  rcases open_ints ht he hc hf with ⟨hcs, _⟩ | ⟨a, len', cap', zs, hcs, _, hl, hm, hz, _, hcell, hwz⟩
  · simp [Value.cells] at hcs
    obtain ⟨rfl, rfl, rfl⟩ := hcs
    exact ⟨none, [], 0, rfl, ⟨by simp, by simp⟩, by simp, by simp, fun _ => rfl⟩
  · simp [Value.cells] at hcs
    obtain ⟨rfl, rfl, rfl⟩ := hcs
    simp only [if_true] at hz
    have hlen : (zs.take len).length = len := by simp; omega
    refine ⟨some a, zs.take len, cap, by rw [hlen], ⟨fun z hz => i64_wf (hwz z (List.mem_of_mem_take hz)), fun h0 => ?_⟩, by omega, by unfold maxLen at hm; exact hm, by simp⟩
    have h1 := hcell 0 (by omega)
    have hlt := cell_lt h1
    rw [add_block] at hlt
    obtain ⟨b, off, rfl⟩ : ∃ b off, a = ⟨b, off, none⟩ := by
      obtain ⟨b, off, e⟩ := plain_addr h1
      obtain ⟨b', off', spot⟩ := a
      simp [Addr.add] at e
      exact ⟨b', off', by rw [e.2.2]⟩
    refine ⟨b, off, rfl, hlt, fun j z hj => ?_⟩
    have hj' := (List.getElem?_eq_some_iff.1 hj).1
    have h2 := hcell j (by simp at hj'; omega)
    rw [plain_add] at h2
    rw [h2]
    rw [List.getElem?_take] at hj
    split at hj
    · simp [List.getD_eq_getElem?_getD, hj]
    · cases hj
end
theorem cells_int : Try.prog.cellsOf 3 = 1 := by kernel_rfl
end Go.Proofs.Ytiagoaaldpajmaa
namespace Go.Proofs.Ytiagoaaldpajmaa
open Go.ChangeShapes Go.WideShapes Go.ChangeAt Go.RowKit Go.BigFrame
set_option linter.unusedVariables false
structure De where
  kind : Nat
  name : ByteArray
  b : ByteArray
  n : Int
  ka : Option Addr
  keep : List Int
  kc : Nat
/-- its numbers are such -/
structure De.Ok (x : De) : Prop where
  kind : x.kind ≤ 255
  name : x.name.size ≤ 9223372036854775807
  b : x.b.size ≤ 9223372036854775807
  n : -9223372036854775808 ≤ x.n ∧ x.n ≤ 9223372036854775807
  kc : x.keep.length ≤ x.kc
  km : x.kc ≤ 9223372036854775807
def De.cells (x : De) (w : World) (b off : Nat) : Prop :=
  w.cell? ⟨b, off, none⟩ = some (.int .u8 (x.kind : Nat)) ∧ w.cell? ⟨b, off + 1, none⟩ = some (.string x.name) ∧ w.cell? ⟨b, off + 2, none⟩ = some (.string x.b) ∧ w.cell? ⟨b, off + 3, none⟩ = some (.int .i64 x.n) ∧ w.cell? ⟨b, off + 4, none⟩ = some (.slice x.ka x.keep.length x.kc)
def Deeds (w : World) (A : Option Addr) (l : List De) : Prop :=
  (∀ x ∈ l, x.Ok ∧ IntsAt w x.ka x.keep) ∧ (0 < l.length → ∃ b off, A = some ⟨b, off, none⟩ ∧ b < w.heap.size ∧ ∀ (j : Nat) (x : De), l[j]? = some x → x.cells w b (off + j * 5))
section
variable {w w' : World} {A : Option Addr} {l : List De}
theorem Deeds.below (h : Deeds w A l) (hb : Below w.heap.size w w') : Deeds w' A l :=
  ⟨fun x hx => ⟨(h.1 x hx).1, (h.1 x hx).2.touch (Touch.of_below (F := fun _ => False) hb) (by simp)⟩, fun h0 => by
    obtain ⟨b, off, e, hlt, hc⟩ := h.2 h0
    refine ⟨b, off, e, Nat.lt_of_lt_of_le hlt hb.size, fun j x hj => ?_⟩
    obtain ⟨h1, h2, h3, h4, h5⟩ := hc j x hj
    exact ⟨(World.cell?_of_block (hb.block b hlt)).trans h1, (World.cell?_of_block (hb.block b hlt)).trans h2, (World.cell?_of_block (hb.block b hlt)).trans h3, (World.cell?_of_block (hb.block b hlt)).trans h4, (World.cell?_of_block (hb.block b hlt)).trans h5⟩⟩
end
section
variable {H : Type} {enc : TypeId × Value → H}
section
variable {P : Program} {w : World} {base : Nat} {spare : Nat → Bool} {held : Bool}
theorem trod_struct5 {t : TypeId} {f0 f1 f2 f3 f4 : Field} {fuel : Nat} {cs : List Value} {x : DataW H × List MemPlace} (ht : P.underlying t = some (.struct #[f0, f1, f2, f3, f4])) (h : DataW.trod enc P w base spare held fuel t cs = some x) :
    ∃ y0 y1 y2 y3 y4 n, x.1 = .agg [y0.1, y1.1, y2.1, y3.1, y4.1] ∧ cs.length = P.cellsOf t ∧ DataW.trod enc P w base spare held n f0.type ((cs.drop f0.offset).take (P.cellsOf f0.type)) = some y0 ∧
      DataW.trod enc P w base spare held n f1.type ((cs.drop f1.offset).take (P.cellsOf f1.type)) = some y1 ∧ DataW.trod enc P w base spare held n f2.type ((cs.drop f2.offset).take (P.cellsOf f2.type)) = some y2 ∧
      DataW.trod enc P w base spare held n f3.type ((cs.drop f3.offset).take (P.cellsOf f3.type)) = some y3 ∧ DataW.trod enc P w base spare held n f4.type ((cs.drop f4.offset).take (P.cellsOf f4.type)) = some y4 := by
  obtain ⟨xs, n, _, rfl, hl, hlen, hf⟩ := DataW.trod_struct ht h
  match xs, hlen with
  | [y0, y1, y2, y3, y4], _ => exact ⟨y0, y1, y2, y3, y4, n, by simp, hl, by simpa using hf 0 f0 rfl, by simpa using hf 1 f1 rfl, by simpa using hf 2 f2 rfl, by simpa using hf 3 f3 rfl, by simpa using hf 4 f4 rfl⟩
end
theorem cell_add {b off i j : Nat} : ((⟨b, off, none⟩ : Addr).add i).add j = ⟨b, off + i + j, none⟩ := by rw [plain_add, plain_add]
set_option maxRecDepth 100000 in
set_option maxHeartbeats 4000000 in
theorem open_deeds {W : World} {base : Nat} {v : Value} {d : DataW H} {p : List MemPlace} (hok : Value.okWide Try.prog W .any base 23 v)
    (h : DataW.Trod enc Try.prog W 0 (fun _ => true) true 23 v d p) :
    ∃ (A : Option Addr) (l : List De) (c : Nat), v = .slice A l.length c ∧ Deeds W A l ∧ l.length ≤ c ∧ c ≤ 9223372036854775807 := by
  obtain ⟨A0, len, cap, rfl⟩ := okWide_slice Try.underlying23 hok
  obtain ⟨fuel, hf⟩ := h
  rcases Go.Deep.open_slice Try.underlying23 hf with ⟨hcs, _⟩ | ⟨a, len', cap', m, n, D, Pl, hcs, _, hl, hm, hmm, hx, hi⟩
  · simp [Value.cells] at hcs
    obtain ⟨rfl, rfl, rfl⟩ := hcs
    exact ⟨none, [], 0, rfl, ⟨by simp, by simp⟩, by simp, by simp⟩
  · simp [Value.cells] at hcs
    obtain ⟨rfl, rfl, rfl⟩ := hcs
    simp only [if_true] at hmm
    subst hmm
    rw [show Try.prog.cellsOf 32 = 5 by kernel_rfl] at hi
    have key : ∀ i, i < len → ∃ x : De, (x.Ok ∧ IntsAt W x.ka x.keep) ∧ W.cell? ((a.add (i * 5)).add 0) = some (.int .u8 (x.kind : Nat)) ∧ W.cell? ((a.add (i * 5)).add 1) = some (.string x.name) ∧ W.cell? ((a.add (i * 5)).add 2) = some (.string x.b) ∧ W.cell? ((a.add (i * 5)).add 3) = some (.int .i64 x.n) ∧ W.cell? ((a.add (i * 5)).add 4) = some (.slice x.ka x.keep.length x.kc) := by
      intro i hlt
      obtain ⟨cs', hc, ht⟩ := hi i (by omega)
      obtain ⟨_, hcl, hat⟩ := World.cells?_some hc
      obtain ⟨y0, y1, y2, y3, y4, n', hy, _, h0, h1, h2, h3, h4⟩ := trod_struct5 Try.underlying32 ht
      obtain ⟨u, e0, ey0, w0⟩ := DataW.trod_int Try.underlying5 h0
      obtain ⟨s1, e1, ey1, w1⟩ := DataW.trod_string Try.underlying9 h1
      obtain ⟨s2, e2, ey2, w2⟩ := DataW.trod_string Try.underlying9 h2
      obtain ⟨z, e3, ey3, w3⟩ := DataW.trod_int Try.underlying3 h3
      have hk : ∃ (KA : Option Addr) (ks : List Int) (kc : Nat), (cs'.drop 4).take (Try.prog.cellsOf 30) = [.slice KA ks.length kc] ∧ IntsAt W KA ks ∧ ks.length ≤ kc ∧ kc ≤ 9223372036854775807 := by
        rcases open_ints Try.underlying30 Try.underlying3 cells_int h4 with ⟨hcs, _⟩ | ⟨ka, klen, kcap, zs, hcs, _, hkl, hkm, hkz, _, hkcell, hkw⟩
        · exact ⟨none, [], 0, hcs, ⟨by simp, by simp⟩, by simp, by simp⟩
        · simp only [if_true] at hkz
          have hlen : (zs.take klen).length = klen := by simp; omega
          refine ⟨some ka, zs.take klen, kcap, by rw [hlen]; exact hcs, ⟨fun z hz => i64_wf (hkw z (List.mem_of_mem_take hz)), fun h0 => ?_⟩, by omega, by unfold maxLen at hkm; exact hkm⟩
          have hc1 := hkcell 0 (by omega)
          have hlt := cell_lt hc1
          rw [add_block] at hlt
          obtain ⟨b, off, rfl⟩ : ∃ b off, ka = ⟨b, off, none⟩ := by
            obtain ⟨b, off, e⟩ := plain_addr hc1
            obtain ⟨b', off', spot⟩ := ka
            simp [Addr.add] at e
            exact ⟨b', off', by rw [e.2.2]⟩
          refine ⟨b, off, rfl, hlt, fun j z hj => ?_⟩
          have hj' := (List.getElem?_eq_some_iff.1 hj).1
          have h2 := hkcell j (by simp at hj'; omega)
          rw [plain_add] at h2
          rw [h2]
          rw [List.getElem?_take] at hj
          split at hj
          · simp [List.getD_eq_getElem?_getD, hj]
          · cases hj
      obtain ⟨KA, ks, kc, e4, hK, hk1, hk2⟩ := hk
      obtain ⟨k, rfl⟩ := Int.eq_ofNat_of_zero_le (u8_wf w0).1
      have hu := (u8_wf w0).2
      match cs', hcl, e0, e1, e2, e3, e4, hat with
      | [c0, c1, c2, c3, c4], _, e0, e1, e2, e3, e4, hat =>
        rw [show Try.prog.cellsOf 5 = 1 by kernel_rfl] at e0
        rw [show Try.prog.cellsOf 9 = 1 by kernel_rfl] at e1 e2
        rw [show Try.prog.cellsOf 3 = 1 by kernel_rfl] at e3
        rw [show Try.prog.cellsOf 30 = 1 by kernel_rfl] at e4
        simp at e0 e1 e2 e3 e4
        subst e0; subst e1; subst e2; subst e3; subst e4
        exact ⟨⟨k, s1, s2, z, KA, ks, kc⟩, ⟨⟨by show k ≤ 255; omega, by unfold maxLen at w1; exact w1, by unfold maxLen at w2; exact w2, i64_wf w3, hk1, hk2⟩, hK⟩, hat 0 (by omega), hat 1 (by omega), hat 2 (by omega), hat 3 (by omega), hat 4 (by omega)⟩
    let f : Nat → De := fun i => if h : i < len then Classical.choose (key i h) else ⟨0, ⟨#[]⟩, ⟨#[]⟩, 0, none, [], 0⟩
    have hf' : ∀ i (h : i < len), f i = Classical.choose (key i h) := fun i h => by simp only [f]; rw [dif_pos h]
    have hspec := fun i (h : i < len) => (by rw [hf' i h]; exact Classical.choose_spec (key i h) :
      (((f i).Ok ∧ IntsAt W (f i).ka (f i).keep) ∧ W.cell? ((a.add (i * 5)).add 0) = some (.int .u8 ((f i).kind : Nat)) ∧ W.cell? ((a.add (i * 5)).add 1) = some (.string (f i).name) ∧ W.cell? ((a.add (i * 5)).add 2) = some (.string (f i).b) ∧ W.cell? ((a.add (i * 5)).add 3) = some (.int .i64 (f i).n) ∧ W.cell? ((a.add (i * 5)).add 4) = some (.slice (f i).ka (f i).keep.length (f i).kc)))
    refine ⟨some a, (List.range len).map f, m, by simp, ⟨fun t ht => ?_, fun hn => ?_⟩, by simp; omega, by unfold maxLen at hm; omega⟩
    · obtain ⟨i, hi2, rfl⟩ := List.mem_map.1 ht
      exact (hspec i (List.mem_range.1 hi2)).1
    · have hlen : 0 < len := by simpa using hn
      have h0 := (hspec 0 hlen).2.1
      have hlt := cell_lt h0
      rw [add_block, add_block] at hlt
      obtain ⟨b, off, rfl⟩ : ∃ b off, a = ⟨b, off, none⟩ := by
        obtain ⟨b, off, e⟩ := plain_addr h0
        obtain ⟨b', off', spot⟩ := a
        simp [Addr.add] at e
        exact ⟨b', off', by rw [e.2.2]⟩
      refine ⟨b, off, rfl, hlt, fun i t ht => ?_⟩
      have hil : i < len := by simpa using (List.getElem?_eq_some_iff.1 ht).1
      rw [List.getElem?_map, List.getElem?_range hil] at ht
      obtain rfl : f i = t := by simpa using ht
      obtain ⟨_, h1, h2, h3, h4, h5⟩ := hspec i hil
      rw [cell_add] at h1 h2 h3 h4 h5
      exact ⟨h1, h2, h3, h4, h5⟩
end
/-- at most 50 calls, of 300 bytes each -/
def few (l : List De) : Bool := l.all (fun x => decide (x.name.size ≤ 300) && decide (x.b.size ≤ 300)) && decide (l.length ≤ 50)
end Go.Proofs.Ytiagoaaldpajmaa
namespace Go.Proofs.Ytiagoaaldpajmaa
open Go.ChangeShapes Go.WideShapes Go.ChangeAt Go.RowKit Go.BigFrame
set_option linter.unusedVariables false
def small (x : De) : Bool := decide (x.name.size ≤ 300) && decide (x.b.size ≤ 300)
theorem few_bad {l : List De} {k : Nat} (hk : k < l.length) (h : small l[k] = false) : few l = false := by
  unfold few
  have : l.all (fun x => decide (x.name.size ≤ 300) && decide (x.b.size ≤ 300)) = false := by
    rw [Bool.eq_false_iff]
    intro ha
    rw [List.all_eq_true] at ha
    have := ha _ (List.getElem_mem hk)
    unfold small at h
    rw [h] at this; cases this
  rw [this]; rfl
theorem few_end {l : List De} (h : l.all small = true) : few l = decide (l.length ≤ 50) := by
  unfold few
  have : l.all (fun x => decide (x.name.size ≤ 300) && decide (x.b.size ≤ 300)) = true := h
  rw [this]; rfl
theorem few_next {l : List De} {k : Nat} (hk : k < l.length) (h : small l[k] = true) (ha : (l.take k).all small = true) : (l.take (k + 1)).all small = true := by
  rw [List.take_add_one, List.all_append, ha, List.getElem?_eq_getElem hk]
  simp [h]
theorem few_out {l : List De} (h : few l = true) : l.length ≤ 50 ∧ ∀ x ∈ l, x.name.size ≤ 300 ∧ x.b.size ≤ 300 := by
  unfold few at h
  simp only [Bool.and_eq_true, decide_eq_true_eq, List.all_eq_true] at h
  exact ⟨h.2, h.1⟩
set_option maxRecDepth 100000 in
set_option maxHeartbeats 1000000 in
theorem few_any (w : World) (A : Option Addr) (l : List De) (c : Nat) (hD : Deeds w A l) (hc : l.length ≤ c) (hm : c ≤ 9223372036854775807) :
    Calls Try.prog 9 #[.slice A l.length c] w fun e w' => e = .returned (.bool (few l)) ∧ w = w' := by
  have HD := Lib.hid hD; clear hD
  go_enter Try.func9, Try.ntmps9
  go_wp2
  go_loop [3] (fun i => ∃ k : Nat, k ≤ l.length ∧ i = .int .i64 k ∧ (l.take k).all small = true) (fun i => l.length - (intOf i).toNat)
  case atStart => exact ⟨0, Nat.zero_le _, rfl, rfl⟩
  case round =>
    obtain ⟨k, hk, rfl, hall⟩ := hrel
    have HA := Lib.hid hall; clear hall
    by_cases hlt : k < l.length
    · obtain ⟨b, off, hA, hbl, hci⟩ := HD.out.2 (by omega)
      subst hA
      obtain ⟨hc0, hc1, hc2, hc3, hc4⟩ := hci k l[k] (List.getElem?_eq_getElem hlt)
      have hok := (HD.out.1 l[k] (List.getElem_mem hlt)).1
      have hn1 := hok.name
      have hn2 := hok.b
      obtain ⟨x, hx⟩ : ∃ x, x = l[k] := ⟨_, rfl⟩
      rw [← hx] at hc0 hc1 hc2 hc3 hc4 hn1 hn2
      have HK := Lib.hid hx; clear hx hok hci hc0 hc3 hc4
      by_cases hb : 300 < x.name.size
      · go_wp2
        go_ret
        exact ⟨congrArg (fun b => Ending.returned (.bool b)) (few_bad hlt (by rw [← HK.out]; simp [small]; omega)).symm, rfl⟩
      · by_cases hb2 : 300 < x.b.size
        · go_wp2
          go_ret
          exact ⟨congrArg (fun b => Ending.returned (.bool b)) (few_bad hlt (by rw [← HK.out]; simp [small]; omega)).symm, rfl⟩
        · go_wp2
          go_round
          case rel => exact ⟨k + 1, by omega, by go_num, few_next hlt (by rw [← HK.out]; simp [small]; omega) HA.out⟩
          case measure => simp [intOf]; omega
    · go_wp2
      go_ret
      have ha := HA.out
      rw [List.take_of_length_le (by omega)] at ha
      exact ⟨congrArg (fun b => Ending.returned (.bool b)) (by rw [few_end ha]; simp; omega), rfl⟩
end Go.Proofs.Ytiagoaaldpajmaa
namespace Go.Proofs.Ytiagoaaldpajmaa
open Go.ChangeShapes Go.WideShapes Go.ChangeAt Go.RowKit Go.BigFrame
set_option linter.unusedVariables false
/-- one operation makes memory, a second one does more -/
def Seq4 (a b : World) (Q : World → Prop) (b1 b2 : Bool) (w : World) : Prop := match b1, b2 with
  | false, false => w = a
  | true, false => w = b
  | true, true => Q w
  | false, true => False
namespace Stage
section
variable {P : Program} {ops : Array Oper} {md : Region.Mode} {K1 K2 : Nat} {D : Bool → Bool → World → Prop}
/-- operation i, which comes up ahead of the second -/
theorem two_step {i : Nat} (hl : (decide (i ≠ K1) && decide (i ≠ K2) && leads md ops 8 i K2) = true) {o : Oper} {a : Act} {v : Value} (h : ∀ b w, D b false w → at_ P o a (D b false) w v) :
    ∀ S w, Fit md ops S → i ∈ Region.ready md ops S → two K1 K2 D S w → at_ P o a (two K1 K2 D (S.setIfInBounds i true)) w v := by
  simp only [Bool.and_eq_true, decide_eq_true_eq] at hl
  intro S w hF hi hS
  have hn := hF.before 8 i (mem_ready.1 hi).1 hl.2
  unfold two at *
  rw [getD_set_ne true hl.1.1, getD_set_ne true hl.1.2, hn]
  rw [hn] at hS
  exact h _ w hS
theorem at_convert2 {C : World → Prop} {o : Oper} {a : Act} {w w' : World} {v p : Value} (s t : TypeId) (x : Operand) (ho : o.op = .convert s t x) (hx : a.eval x = p) (hr : (convert s t p).run P w = .ok v w') (h : C w') : at_ P o a C w v := by
  unfold at_ execOp; simp only [ho, hx, Sem.run_bind, hr, Result.andThen_ok, Sem.run_pure, upon]; exact ⟨trivial, h⟩
end
end Stage
theorem wrap_in {z : Int} (h0 : -9223372036854775808 ≤ z) (h1 : z ≤ 9223372036854775807) : IntKind.i64.wrap z = z := IntWalk.i64_in _ (by omega)
theorem deed_ix (w : World) {b off len c k : Nat} (h : k < len) : (Instr.indexAt 23 (.slice (some ⟨b, off, none⟩) len c) (.int .i64 (k : Nat))).run Try.prog w = .ok (.pointer (some ⟨b, off + k * 5, none⟩)) w := by
  go_simp
theorem deed_field (w : World) {b o : Nat} (k : Nat) (hk : k = 1 ∨ k = 2) : (Instr.fieldAt 32 (.pointer (some ⟨b, o, none⟩)) k).run Try.prog w = .ok (.pointer (some ⟨b, o + k, none⟩)) w := by
  rcases hk with rfl | rfl <;> go_simp
theorem load_str2 {w : World} {k o : Nat} {s : ByteArray} (h : w.cell? ⟨k, o, none⟩ = some (.string s)) : (Instr.loadAt 9 (.pointer (some ⟨k, o, none⟩))).run Try.prog w = .ok (.string s) w := by
  go_simp
theorem conv_u16 (w : World) {q : Nat} (h : q ≤ 65535) : (convert 51 3 (.int .u16 (q : Nat))).run Try.prog w = .ok (.int .i64 (q : Nat)) w := by
  go_simp
  exact wrap_in (by omega) (by omega)
section
variable {w0 w : World} {F : Nat → Prop} {p : Nat} {d : DM}
theorem OwnF.drew (h : OwnF w0 w p d F) : OwnF w0 w.drew p d F := h.made (Below.refl _ _).drew
theorem own_used (h : OwnF w0 w p d F) : Calls Try.prog 27 #[.pointer (some ⟨p, 0, none⟩)] w fun e w' => e = .returned (.int .i64 (usedF d.fs : Nat)) ∧ w = w' := by
  obtain ⟨m, g, v, hD⟩ := h.disk
  exact used_any hD.row
theorem own_steps (h : OwnF w0 w p d F) : Calls Try.prog 29 #[.pointer (some ⟨p, 0, none⟩)] w fun e w' => e = .returned (.int .i64 (d.deeds : Nat)) ∧ w = w' := by
  obtain ⟨m, g, v, hD⟩ := h.disk
  exact steps_any hD.row
end
theorem wrap_add {m n : Nat} (h : m + n ≤ 1000000000) : IntKind.i64.wrap ((m : Int) + (n : Int)) = ((m + n : Nat) : Int) := by
  rw [wrap_in (by omega) (by omega)]; push_cast; rfl
end Go.Proofs.Ytiagoaaldpajmaa
