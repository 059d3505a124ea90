/- The names of a disk's files; copies of strings and bytes. -/
import Derived.Test.YtgfdpilgonpokaaSettle
import Derived.Test.YtgfdpilgonpokaaFree
import Derived.Test.YtgfdpilgonpokaaShelf
namespace Go.Proofs.Ytgfdpilgonpokaa
open Go.ChangeShapes Go.WideShapes Go.ChangeAt Go.RowKit Go.BigFrame Go.Maps Go.Sort
set_option linter.unusedVariables false

section
variable {w : World} {p r u dd f : Nat} {m : Option Nat} {o : Bool}
theorem clone_str (s : ByteArray) (w : World) (hs : s.size ≤ 281474976710656) :
    Calls Try.prog 60 #[.string s] w fun e w' => e = .returned (.string s) ∧ Below w.heap.size w w' := by
  have hc := Try.stringslite_Clone s w hs
  have HC := Lib.hid hc; clear hc
  go_enter Try.func60, Try.ntmps60
  go_wp2_with fail
  refine (HC.out).mono ?_; rintro e w' ⟨rfl, hb⟩
  go_wp2
  go_ret
  exact ⟨rfl, hb⟩
/-- names as they stand in a slice -/
def nameRow (fs : Fs) : List Value := fs.map fun q => encStr q.1
theorem names_any (h : Row w p TD (dcells r u m dd o f)) {fs : Fs} {g : Nm → Nat} (hM : MapAt w m fs g) (hS : SortF fs) (hl : fs.length ≤ 1000000000) :
    Calls Try.prog 28 #[.pointer (some ⟨p, 0, none⟩)] w fun e w' => ∃ v, e = .returned v ∧ w'.ownsRow w.heap.size 9 1 v fs.length (nameRow fs) ∧ Below w.heap.size w w' := by
  obtain ⟨h0, h1, h2, h3, h4, h5⟩ := drow h
  have hk := callsIn_wide.1 (Try.maps_Keys_62 m w)
  have HK := Lib.hid hk; have HM := Lib.hid hM; clear hk hM h
  cases m with
  | none =>
    have hfs : fs = [] := HM.out
    have hq := callsIn_wide.1 (Try.slices_Sorted_keys_nil_61_62 w)
    have HQ := Lib.hid hq; have HF := Lib.hid hfs; clear hq hfs
    go_enter Try.func28, Try.ntmps28
    go_wp2_with fail
    refine (HK.out).mono ?_; rintro e w' ⟨rfl, rfl⟩
    go_wp2_with fail
    refine (HQ.out).mono ?_; rintro e w' ⟨v, ss, rfl, hss, hrow, hnil, hb⟩
    have H1 := Lib.hid hrow; have H2 := Lib.hid hss; have H3 := Lib.hid hb; clear hrow hss hb hnil
    go_wp2_with fail
    go_ret
    have hs := H2.out
    subst hs
    refine ⟨v, rfl, ?_, ((Below.refl _ w).alloc (Nat.le_refl _) _).trans (H3.out.mono (by simp))⟩
    rw [HF.out]
    have hr := H1.out
    rw [List.mergeSort_nil] at hr
    exact ownsRow_base_a (base' := w.heap.size) hr (by simp)
  | some b =>
    have hq := callsIn_wide.1 (Try.slices_Sorted_keys_61_62 b fs.length (dat fs g) refPtr w HM.out (by rw [dat_size]; unfold maxLen; omega) (by rw [dat_size]; omega))
    have HQ := Lib.hid hq; clear hq
    go_enter Try.func28, Try.ntmps28
    go_wp2_with fail
    refine (HK.out).mono ?_; rintro e w' ⟨rfl, rfl⟩
    go_wp2_with fail
    refine (HQ.out).mono ?_; rintro e w' ⟨v, ss, rfl, hss, hrow, hnil, hb⟩
    have H1 := Lib.hid hrow; have H2 := Lib.hid hss; have H3 := Lib.hid hb; clear hrow hss hb hnil
    go_wp2_with fail
    go_ret
    refine ⟨v, rfl, ?_, ((Below.refl _ w).alloc (Nat.le_refl _) _).trans (H3.out.mono (by simp))⟩
    have hp := H2.out
    rw [dat_keys] at hp
    have hr := H1.out
    rw [names_sorted hS hp, hp.length_eq, List.length_map] at hr
    have := ownsRow_base_a hr (base' := w.heap.size) (by simp)
    rw [List.map_map] at this
    exact this
end
end Go.Proofs.Ytgfdpilgonpokaa
