/- slices.Concat of any rows of records; value.Add, value.Sorted. -/
import Derived.Test.YtcdofkhkckodjaaVrSort
import Derived.Test.YtcdofkhkckodjaaVrRefMath
namespace Go.Proofs.Ytcdofkhkckodjaa
namespace Vr
open Go.ChangeShapes Go.WideShapes Go.ChangeAt Go.RowKit Go.BigFrame Go.Shelf
set_option linter.unusedVariables false
set_option maxRecDepth 100000
/-- a row that can be read, and its slice -/
structure Rr where
  A : Option Addr
  ts : List Rd
  c : Nat
def Rr.val (r : Rr) : Value := .slice r.A r.ts.length r.c
structure Rr.Ok (w : World) (r : Rr) : Prop where
  ts : Rw.Ts kindR w r.A r.ts
  nil : r.A = none → r.c = 0 ∧ r.ts = []
/-- block B holds the slices of these rows -/
structure RowsAt (w : World) (B : Nat) (L : List Rr) : Prop where
  row : Row w B 22 (L.map Rr.val)
  ok : ∀ r ∈ L, r.Ok w
def cat (L : List Rr) : List Rd := (L.map Rr.ts).flatten
theorem cat_take {L : List Rr} {k : Nat} {r : Rr} (h : L[k]? = some r) : cat (L.take (k + 1)) = cat (L.take k) ++ r.ts := by
  unfold cat
  rw [List.take_add_one, h]
  simp
theorem cat_take_le (L : List Rr) (k : Nat) : (cat (L.take k)).length ≤ (cat L).length := by
  have : cat L = cat (L.take k) ++ cat (L.drop k) := by
    unfold cat
    rw [← List.flatten_append, ← List.map_append, List.take_append_drop]
  rw [this, List.length_append]; omega
theorem Rr.Ok.below {w w' : World} {r : Rr} (h : r.Ok w) (hb : Below w.heap.size w w') : r.Ok w' := ⟨h.ts.below hb, h.nil⟩
theorem RowsAt.below {w w' : World} {B : Nat} {L : List Rr} (h : RowsAt w B L) (hb : Below w.heap.size w w') : RowsAt w' B L := ⟨h.row.below hb h.row.lt, fun r hr => (h.ok r hr).below hb⟩
theorem RowsAt.made (w : World) (L : List Rr) (h : ∀ r ∈ L, r.Ok w) : RowsAt (w.alloc (.cells (L.map Rr.val).toArray 22)) w.heap.size L :=
  ⟨Row.made w _ _, fun r hr => (h r hr).below ((Below.refl _ _).alloc (Nat.le_refl _) _)⟩
/-- room for n records -/
theorem grow_any (n : Nat) (w : World) (hn : n ≤ 1000000) : Calls Try.prog 35 #[.slice none 0 0, .int .i64 n] w fun e w' => (∃ v, e = .returned v ∧ w'.ownsRow w.heap.size 32 kindR.K v 0 (Rw.row kindR [])) ∧ Below w.heap.size w w' := by
  obtain ⟨i, hi, hz0, hz1, hz2⟩ := info_parts infoRec
  cases n with
  | zero => exact (Any8.slices_Grow_room Try.growRec none 0 0 0 w (by omega) (by omega) (by omega) (by omega)).mono fun e w' ⟨he, hw⟩ => ⟨⟨_, he, World.ownsRow_nil _ _ _ _⟩, by subst hw; exact Below.refl _ _⟩
  | succ n =>
    refine (Any8.slices_Grow_grow Try.growRec i _ hi hz0 (by rw [hz1]; show 0 < 2; omega) none 0 0 (n + 1) [] w (by omega) (by omega) (by rw [hz2]; omega) (by omega) (by simp) (fun _ => rfl) (fun a h => by cases h)).mono fun e w' ⟨he, hw⟩ => ?_
    subst hw
    refine ⟨⟨_, he, rfl, .inr ⟨w.heap.size, _, _, rfl, Nat.le_refl _, heap_alloc_new w.drew _, Nat.zero_le _, grownCap_le_maxLen _ _ _ _ (by unfold maxLen; omega), ?_, by simp [Rw.row]⟩⟩, ((Below.refl w.heap.size w).drew).alloc (Nat.le_refl _) _⟩
    · have := grownCap_ge w (n + 1) 0 (Try.growRec_ren.t 25)
      simp [Builtin.zeroCells, Value.cells]
      show _ = _ * 2
      omega
set_option maxHeartbeats 4000000 in
theorem concat_any (B : Nat) (L : List Rr) (w : World) (hL : RowsAt w B L) (hl : L.length ≤ 1000) (hn : (cat L).length ≤ 1000000) :
    Calls Try.prog 28 #[.slice (some ⟨B, 0, none⟩) L.length L.length] w fun e w' => (∃ v, e = .returned v ∧ w'.ownsRow w.heap.size 32 kindR.K v (cat L).length (Rw.row kindR (cat L))) ∧ Below w.heap.size w w' := by
  have HL := Lib.hid hL; have HN := Lib.hid hn; clear hL hn
  go_enter Try.func28, Try.ntmps28
  go_wp2_with fail
  go_loop [3, 11] (fun s i => ∃ k : Nat, k ≤ L.length ∧ i = .int .i64 k ∧ s = .int .i64 ((cat (L.take k)).length : Nat)) (fun _ i => L.length - (intOf i).toNat)
  case atStart => exact ⟨0, by omega, rfl, rfl⟩
  case round =>
    obtain ⟨k, hk, rfl, rfl⟩ := hrel
    by_cases hlt : k < L.length
    · have hltz : (k : Int) < (L.length : Int) := by omega
      obtain ⟨r, hr⟩ : ∃ r, L[k]? = some r := ⟨_, List.getElem?_eq_getElem hlt⟩
      have q : w.cell? ⟨B, k, none⟩ = some (.slice r.A r.ts.length r.c) := (HL.out.row.cell k).trans (by rw [List.getElem?_map, hr]; rfl)
      have ht := cat_take hr
      have hle := cat_take_le L (k + 1)
      rw [ht, List.length_append] at hle
      obtain ⟨p, hp⟩ : ∃ p, (cat (L.take k)).length = p := ⟨_, rfl⟩
      rw [hp] at hle ⊢
      have hb : p + r.ts.length ≤ 1000000 := by have := HN.out; omega
      have hz : ¬ ((p : Int) + (r.ts.length : Int) < 0) := by omega
      have HT := Lib.hid ht; have HP := Lib.hid hp
      clear hle hr ht hp
      go_wp2_with fail
      go_round
      case rel => exact ⟨k + 1, by omega, by simp, by rw [HT.out, List.length_append, HP.out]; simp⟩
      case measure => simp [intOf]; omega
    · have hkl : k = L.length := by omega
      subst hkl
      rw [List.take_length]
      have hg := grow_any (cat L).length w HN.out
      have HG := Lib.hid hg; clear hg
      have hnn : (cat L).length ≤ 1000000 := HN.out
      go_wp2_with fail
      refine HG.out.mono ?_; rintro e w1 ⟨⟨v, rfl, hown⟩, hb1⟩
      have HO := Lib.hid hown; have HB := Lib.hid hb1; clear hown hb1 HG
      dsimp only
      go_wp2_with fail
      go_loopw [6, 27] (fun fv i wr => ∃ k : Nat, k ≤ L.length ∧ i = .int .i64 k ∧ Below w.heap.size w wr ∧ wr.ownsRow w.heap.size 32 kindR.K fv (cat (L.take k)).length (Rw.row kindR (cat (L.take k)))) (fun _ i _ => L.length - (intOf i).toNat)
      case atStart => exact ⟨0, by omega, rfl, HB.out, HO.out⟩
      case round =>
        obtain ⟨k, hk, rfl, hbw, hro⟩ := hrel
        have HBW := Lib.hid hbw; have HRO := Lib.hid hro; clear hbw hro HO HB
        by_cases hlt : k < L.length
        · have hltz : (k : Int) < (L.length : Int) := by omega
          obtain ⟨r, hr⟩ : ∃ r, L[k]? = some r := ⟨_, List.getElem?_eq_getElem hlt⟩
          have hrow := HL.out.row.below HBW.out HL.out.row.lt
          have q : wr.cell? ⟨B, k, none⟩ = some (.slice r.A r.ts.length r.c) := (hrow.cell k).trans (by rw [List.getElem?_map, hr]; rfl)
          have hok := HL.out.ok r (List.mem_of_getElem? hr)
          have ht := cat_take hr
          have hle := cat_take_le L (k + 1)
          rw [ht, List.length_append] at hle
          generalize cat (L.take k) = us at *
          have hb : us.length + r.ts.length ≤ 1000000 := by omega
          have hbs := HBW.out.size
          have HT := Lib.hid ht; have HOK := Lib.hid hok; have HBS := Lib.hid hbs
          clear hle hr ht hok hrow hbs
          go_wp2_with (at_builtin; refine Rw.append_own kindR 32 22 Try.underlying22 infoRec rfl rfl _ _ rfl w.heap.size _ us.length us rfl HRO.out r.A r.c r.ts rfl HOK.out.nil (HOK.out.ts.below HBW.out) (by unfold maxLen; omega) (by omega) HBS.out ?_; intro v2 w4 hv2 hg2; have hb2 := Rw.own_below HRO.out hg2 HBW.out HBS.out; have HV := Lib.hid hv2; have HB2 := Lib.hid hb2; clear hv2 hg2 hb2)
          go_roundw
          case rel => exact ⟨k + 1, by omega, by simp, HB2.out, by rw [HT.out, List.length_append]; exact HV.out⟩
          case measure => simp only [intOf]; omega
        · have hkl : k = L.length := by omega
          subst hkl
          have hro := HRO.out
          rw [List.take_length] at hro
          have HRO' := Lib.hid hro; clear hro
          go_wp2_with fail
          go_ret
          exact ⟨⟨_, rfl, HRO'.out⟩, HBW.out⟩
set_option maxHeartbeats 1000000 in
theorem add_any (B : Nat) (L : List Rr) (w : World) (hL : RowsAt w B L) (hl : L.length ≤ 1000) (hn : (cat L).length ≤ 1000000) :
    Calls Try.prog 17 #[.slice (some ⟨B, 0, none⟩) L.length L.length] w (AddD (sortR (cat L)) w) := by
  have hc := concat_any B L w hL hl hn
  have hs := fun (v : Value) (w1 : World) (h : w1.ownsRow w.heap.size 32 kindR.K v (cat L).length (Rw.row kindR (cat L))) => sortFunc_any w.heap.size (cat L).length v (cat L) w1 h hn
  have hlen : (sortR (cat L)).length = (cat L).length := sortR_perm.length_eq
  generalize sortR (cat L) = ss at *
  generalize cat L = us at *
  generalize L.length = n at *
  have HC := Lib.hid hc; have HS := Lib.hid hs; have HLEN := Lib.hid hlen; clear hc hs hlen hL hn hl
  go_enter Try.func17, Try.ntmps17
  go_wp2_with fail
  refine HC.out.mono ?_; rintro e w1 ⟨⟨v, rfl, hown⟩, hb1⟩
  have hs1 := HS.out v w1 hown
  have HO := Lib.hid hown; have HB := Lib.hid hb1; have HS1 := Lib.hid hs1; clear hown hb1 hs1 HS HC
  dsimp only
  go_wp2_with fail
  refine (byKey_any _).mono ?_; rintro e w' ⟨rfl, rfl⟩
  go_wp2_with fail
  refine HS1.out.mono ?_; rintro e w2 ⟨rfl, hown2, hg2⟩
  have hb2 := Rw.own_below HO.out hg2 HB.out HB.out.size
  have HO2 := Lib.hid hown2; have HB2 := Lib.hid hb2; clear hown2 hg2 hb2
  dsimp only
  go_wp2_with fail
  go_ret
  exact ⟨⟨_, rfl, by rw [HLEN.out]; exact HO2.out⟩, HB2.out⟩
set_option maxHeartbeats 1000000 in
theorem sorted_any (A : Option Addr) (l : List Rd) (c : Nat) (w : World) (hT : Rw.Ts kindR w A l) (hA : A = none → c = 0 ∧ l = []) (hn : l.length ≤ 1000000) :
    Calls Try.prog 12 #[.slice A l.length c] w (AddD (sortR l) w) := by
  have hr := RowsAt.made w [⟨A, l, c⟩] (by intro r hr; simp only [List.mem_singleton] at hr; subst hr; exact ⟨hT, hA⟩)
  have ha0 := add_any w.heap.size [⟨A, l, c⟩] _ hr (by simp) (by simpa [cat] using hn)
  rw [show cat [⟨A, l, c⟩] = l by simp [cat]] at ha0
  have ha : Calls Try.prog 17 #[.slice (some ⟨w.heap.size, 0, none⟩) 1 1] (w.alloc (.cells #[.slice A l.length c] 22)) (AddD (sortR l) (w.alloc (.cells #[.slice A l.length c] 22))) := ha0
  clear ha0
  have HA := Lib.hid ha; clear ha hr hT hA
  generalize sortR l = ss at *
  generalize l.length = n at *
  go_enter Try.func12, Try.ntmps12
  go_wp2_with fail
  refine HA.out.mono ?_; rintro e w1 ⟨⟨v, rfl, hown⟩, hb1⟩
  have HO := Lib.hid hown; have HB := Lib.hid hb1; clear hown hb1 HA
  dsimp only
  go_wp2_with fail
  go_ret
  refine ⟨⟨_, rfl, own_base HO.out (by simp)⟩, ?_⟩
  exact ((Below.refl _ w).alloc (Nat.le_refl _) _).trans (HB.out.mono (by simp))
end Vr
end Go.Proofs.Ytcdofkhkckodjaa
