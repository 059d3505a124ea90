/- Read. -/
import Derived.Test.YtgfdpilgonpokaaSync2
namespace Go.Proofs.Ytgfdpilgonpokaa
open Go.ChangeShapes Go.WideShapes Go.ChangeAt Go.RowKit Go.BigFrame Go.Maps Go.Sort
set_option linter.unusedVariables false
section
variable {w w' : World} {F : Nat → Prop} {fs : Fs} {g : Nm → Nat} {v : Nm → Value} {n : Nm} {x y : Fil} {p r u dd f : Nat} {m : Option Nat} {o : Bool} {d : DM}
/-- a copy of a file's bytes -/
theorem clone_any {V : Value} {b : List Nat} (hV : w.ownsRow 0 5 1 V b.length (u8s b)) (hb : b.length ≤ 8388608) :
    Calls Try.prog 34 #[V] w fun e w' => ∃ V', e = .returned V' ∧ w'.ownsRow w.heap.size 5 1 V' b.length (u8s b) ∧ Below w.heap.size w w' := by
  have hu : (b.map fun x : Nat => (x : Int)).map (Value.int .u8) = u8s b := by simp [u8s]
  obtain ⟨hlen, ⟨rfl, h0⟩ | ⟨k, cap, cur, rfl, hbg, hg, hnc, hcm, hcs, htake⟩⟩ := id hV
  · refine (Try.bytes_Clone_nil 0 0 w).mono ?_
    rintro e w' ⟨rfl, rfl⟩
    have hb0 : b = [] := List.eq_nil_of_length_eq_zero h0
    subst hb0
    exact ⟨_, rfl, World.ownsRow_nil _ _ _ _, Below.refl _ _⟩
  · refine (Try.bytes_Clone_at ⟨k, 0, none⟩ b.length cap (b.map fun x : Nat => (x : Int)) w (by simp) (by omega) ?_).mono ?_
    · intro i hi
      have h1 := hV.cells (g := k) rfl i (.int .u8 (b[i] : Nat)) (by rw [List.getElem?_map, List.getElem?_eq_getElem hi]; rfl)
      rw [h1]
      simp [List.getD_eq_getElem?_getD, hi]
    · rintro e w' ⟨V', rfl, hown, _, hbl⟩
      rw [hu] at hown
      exact ⟨V', rfl, hown, hbl⟩
/-- the bytes that a Read tells -/
def readB (d : DM) (s : ByteArray) : List Nat := if findE d s [] = 0 then match getF s.data.toList d.fs with | some x => x.b | none => [] else []
set_option maxRecDepth 100000 in
set_option maxHeartbeats 2000000 in
theorem read_any (h : DiskAt w p d F m g v) (s : ByteArray) (hs : s.size ≤ 9223372036854775807) :
    Calls Try.prog 21 #[.pointer (some ⟨p, 0, none⟩), .string s] w fun e w' => ∃ V, e = .returned (.tuple #[V, .int .i64 (findE d s [])]) ∧ w'.ownsRow w.heap.size 5 1 V (readB d s).length (u8s (readB d s)) ∧ DiskAt w' p d F m g v ∧ Below w.heap.size w w' := by
  have hn1 := Row.made w TS [.string s]
  have hb1 : Below w.heap.size w (w.alloc (.cells [Value.string s].toArray TS)) := (Below.refl _ _).alloc (Nat.le_refl _) _
  have hD1 := h.still (w' := w.alloc (.cells [Value.string s].toArray TS)) ((Touch.refl _ _).alloc _)
  have HH := Lib.hid h; clear h
  by_cases hE : findE d s [] = 0
  · obtain ⟨x, hx⟩ := find_some hE
    have hB : readB d s = x.b := by simp [readB, hE, hx]
    rw [hE, hB]
    have HE := Lib.hid hE; have HX := Lib.hid hx; clear hE hB hx
    go_enter Try.func21, Try.ntmps21
    go_wp2_with fail
    obtain ⟨kn, hkn⟩ : ∃ kn, kn = w.heap.size := ⟨_, rfl⟩
    rw [← hkn]
    rw [← hkn] at hn1 hb1
    generalize w.alloc (.cells #[.string s] TS) = W at hn1 hb1 hD1 ⊢
    have hfi := find_any hD1 kn s [] hn1 1 (by simp) (by simp) (by simpa using hs)
    rw [HE.out] at hfi
    have HFi := Lib.hid hfi; have HD1 := Lib.hid hD1; have HB1 := Lib.hid hb1; have Hkn := Lib.hid hkn
    clear hfi hD1 hn1 hb1 hkn
    refine (HFi.out).mono ?_; rintro e w1 ⟨a, rfl, ha, k, rfl⟩
    obtain ⟨x2, hx2, rfl⟩ := ha rfl
    obtain rfl : x2 = x := by rw [HX.out] at hx2; exact (Option.some.inj hx2).symm
    have hD2 : DiskAt (W.drewN k) p d F m g v := HD1.out.still ((Touch.refl _ _).drewN k)
    have hb2 : Below kn w (W.drewN k) := ⟨HB1.out.os, HB1.out.tape, HB1.out.output, HB1.out.size, HB1.out.block⟩
    generalize W.drewN k = W1 at hD2 hb2 ⊢
    have hf := hD2.files.at_ _ _ HX.out
    have hl8 := hD2.ok.len _ _ HX.out
    have hcl := clone_any hf.own hl8
    obtain ⟨k0, k1, k2⟩ := frow hf
    have HD2 := Lib.hid hD2; have HB2 := Lib.hid hb2; have HC := Lib.hid hcl
    obtain ⟨gb, hgb⟩ : ∃ gb, gb = g s.data.toList := ⟨_, rfl⟩
    obtain ⟨vb, hvb⟩ : ∃ vb, vb = v s.data.toList := ⟨_, rfl⟩
    rw [← hgb] at k0 ⊢
    rw [← hvb] at k0 HC
    obtain ⟨A, c, hv, hc1, hc2⟩ := fslice hf
    rw [← hvb] at hv
    subst hv
    clear hcl hD2 hb2 hf hx2 ha k1 k2 hgb hvb
    go_wp2_with fail
    refine (HC.out).mono ?_; rintro e w2 ⟨V', rfl, hown, hbl⟩
    have HO := Lib.hid hown; have HBl := Lib.hid hbl; clear hown hbl
    go_wp2_with fail
    go_ret2
    have hsz : w.heap.size ≤ W1.heap.size := HB2.out.size
    have e1 : kn = w.heap.size := Hkn.out
    refine ⟨V', rfl, ownsRow_base_a HO.out hsz, HD2.out.still (Touch.of_below HBl.out), ?_⟩
    have hb2 := HB2.out
    rw [e1] at hb2
    exact hb2.trans (HBl.out.mono hsz)
  · have hB : readB d s = [] := by simp [readB, hE]
    rw [hB]
    have hl2 : (findE d s [] != 0) = true := by simpa using hE
    have HE := Lib.hid hE; clear hE hB
    go_enter Try.func21, Try.ntmps21
    go_wp2_with fail
    obtain ⟨kn, hkn⟩ : ∃ kn, kn = w.heap.size := ⟨_, rfl⟩
    rw [← hkn]
    rw [← hkn] at hn1 hb1
    generalize w.alloc (.cells #[.string s] TS) = W at hn1 hb1 hD1 ⊢
    have hfi := find_any hD1 kn s [] hn1 1 (by simp) (by simp) (by simpa using hs)
    have HFi := Lib.hid hfi; have HD1 := Lib.hid hD1; have HB1 := Lib.hid hb1; have Hkn := Lib.hid hkn
    clear hfi hD1 hn1 hb1 hkn
    refine (HFi.out).mono ?_; rintro e w1 ⟨a, rfl, ha, k, rfl⟩
    clear ha
    go_wp2_with fail
    go_ret2
    have hb1 := HB1.out
    rw [Hkn.out] at hb1
    exact ⟨.slice none 0 0, rfl, World.ownsRow_nil _ _ _ _, HD1.out.still ((Touch.refl _ _).drewN k), ⟨hb1.os, hb1.tape, hb1.output, hb1.size, hb1.block⟩⟩
end
end Go.Proofs.Ytgfdpilgonpokaa
