/- OpersOrder: in whatever order records stand, the same; of kinds that do not wait, of two rows together what is made of each, together. -/
import Derived.Test.YtcjdjdhjbchaaaaCa25
import Derived.Test.YtcjdjdhjbchaaaaCa26
import Derived.Test.YtcjdjdhjbchaaaaCa9
import Derived.Test.YtcjdjdhjbchaaaaCa21
import Derived.Test.YtcjdjdhjbchaaaaOpSlice
import Derived.SizedLaws
namespace Go.Proofs.Ytcjdjdhjbchaaaa
open Go.ChangeShapes Go.WideShapes Go.ChangeAt Go.RowKit Go.BigFrame
open Vr _root_.Go.Proofs.Ytcjdjdhjbchaaaa.Op
set_option linter.unusedVariables false
set_option maxRecDepth 100000
namespace opersOrder
/-- a node in its box -/
def NB (n : Nd) (A : Option Addr) (m c g : Nat) (w : World) : Prop := Row w g 24 [.int .u8 (n.k : Nat), .int .u8 (n.a : Nat), .int .i64 n.b, .int .i64 n.d, .slice A m c]
theorem NB.below {n : Nd} {A : Option Addr} {m c g : Nat} {w w' : World} (h : NB n A m c g w) (hb : Below w.heap.size w w') : NB n A m c g w' := Row.below h hb (Row.lt h)
theorem NB.load {n : Nd} {A : Option Addr} {m c g : Nat} {w : World} (h : NB n A m c g w) : ∀ w', Below w.heap.size w w' → (Instr.loadAt 24 (.pointer (some ⟨g, 0, none⟩))).run Try.prog w' = .ok (nodeV n A m c) w' := fun w' hb => load_node (h.below hb)
section
variable {n : Nd} {a b c x y z u : List Rd}
theorem run_perm1 (h : a.Perm c) : runR n [a] = runR n [c] := by
  unfold runR
  rw [show [a].length = [c].length from rfl, sortR_iff.2 (makes_one h)]
theorem run_perm2 (h : a.Perm c) : runR n [a, b] = runR n [c, b] := by
  unfold runR
  rw [show [a, b].length = [c, b].length from rfl, sortR_iff.2 (makes_two h (List.Perm.refl b))]
theorem run_app1 (h5 : n.k ≠ 5) (h6 : n.k ≠ 6) : sortR ([runR n [x], runR n [y]] : List (List Rd)).flatten = runR n [x ++ y] := by
  unfold runR
  simp only [List.length_cons, List.length_nil]
  by_cases e : errR n (0 + 1) = 0
  · simp only [e, if_true]
    refine sortR_iff.2 ?_
    simp only [List.flatten_cons, List.flatten_nil, List.append_nil]
    rw [makes_one_app h5 h6]
    exact List.Perm.append sortR_perm sortR_perm
  · simp only [e, if_false]; rfl
theorem run_app2 (h5 : n.k ≠ 5) (h6 : n.k ≠ 6) : sortR ([runR n [x, z], runR n [y, u]] : List (List Rd)).flatten = runR n [x ++ y, z ++ u] := by
  unfold runR
  simp only [List.length_cons, List.length_nil]
  by_cases e : errR n (0 + 1 + 1) = 0
  · simp only [e, if_true]
    refine sortR_iff.2 ?_
    simp only [List.flatten_cons, List.flatten_nil, List.append_nil]
    exact (List.Perm.append sortR_perm sortR_perm).trans (makes_two_app h5 h6).symm
  · simp only [e, if_false]; rfl
theorem run_len1 : (runR n [a]).length ≤ a.length := by
  unfold runR
  split
  · rw [sortR_perm.length_eq]; exact makes_len1
  · simp
theorem run_len2 : (runR n [a, b]).length ≤ a.length + b.length + a.length * b.length := by
  unfold runR
  split
  · rw [sortR_perm.length_eq]; exact makes_len2
  · simp
theorem run_o1 (hn : NodeOk n) (NA : Option Addr) (nm nc : Nat) (hWa : ∀ r ∈ a, r.W) (ha : a.length ≤ 60) (X : List Rd) (er : Int) (hX : runR n [a] = X) (he : errR n 1 = er) (w : World) (v : Value) (h : LitV w v [a]) :
    Calls Try.prog 14 #[nodeV n NA nm nc, v] w (GivesE X er w) := by
  have hr := run_v n NA nm nc (LitV.inV h) hn.k hn.a hn.b hn.d (by simp)
    (fun q hq => by simp only [List.mem_singleton] at hq; subst hq; exact hWa) (fun q hq => by simp only [List.mem_singleton] at hq; subst hq; omega)
  rw [hX, show [a].length = 1 from rfl, he] at hr
  exact hr
theorem run_o2 (hn : NodeOk n) (NA : Option Addr) (nm nc : Nat) (hWa : ∀ r ∈ a, r.W) (hWb : ∀ r ∈ b, r.W) (ha : a.length ≤ 60) (hb : b.length ≤ 60) (X : List Rd) (er : Int) (hX : runR n [a, b] = X) (he : errR n 2 = er) (w : World) (v : Value) (h : LitV w v [a, b]) :
    Calls Try.prog 14 #[nodeV n NA nm nc, v] w (GivesE X er w) := by
  have hr := run_v n NA nm nc (LitV.inV h) hn.k hn.a hn.b hn.d (by simp)
    (fun q hq => by simp only [List.mem_cons, List.mem_singleton, List.not_mem_nil, or_false] at hq; rcases hq with rfl | rfl <;> assumption)
    (fun q hq => by simp only [List.mem_cons, List.mem_singleton, List.not_mem_nil, or_false] at hq; rcases hq with rfl | rfl <;> omega)
  rw [hX, show [a, b].length = 2 from rfl, he] at hr
  exact hr
end
theorem back_step {l : List Rd} {p : Nat} {r : Rd} (h : l[p]? = some r) : (l.drop p).reverse = (l.drop (p + 1)).reverse ++ [r] := by
  rw [Vr.drop_cons h, List.reverse_cons]
def tbO23 (A B NA : Option Addr) (c d k nm nc : Nat) (n : Nd) (l m P Q : List Rd) (er : Int) (vh vl : Value) (i : Nat) : World → Value → Prop := match i with
  | 5 => fun w v => LitV w v [(l.take k), m]
  | 6 => fun w v => TupV w v P er
  | 7 => fun w v => TupV w v P er
  | 8 => fun w v => RowV w v P
  | 10 => fun w v => RowV w v P
  | _ => fun _ _ => True
def vtO23 (A B NA : Option Addr) (c d k nm nc : Nat) (n : Nd) (l m P Q : List Rd) (er : Int) (vh vl : Value) (i : Nat) (v : Value) : Prop := match i with
  | 0 => v = .agg #[.int .u8 (n.k : Nat), .int .u8 (n.a : Nat), .int .i64 n.b, .int .i64 n.d, .slice NA nm nc]
  | 1 => v = .slice A l.length c
  | 2 => v = .int .i64 (k : Nat)
  | 3 => v = vh
  | 4 => v = .slice B m.length d
  | 9 => v = .int .i64 er
  | _ => True
theorem tbO23_keep (A B NA : Option Addr) (c d k nm nc : Nat) (n : Nd) (l m P Q : List Rd) (er : Int) (vh vl : Value) : ∀ i, Kept (tbO23 A B NA c d k nm nc n l m P Q er vh vl i) := fun i => by
  unfold tbO23
  split <;> first | exact kept_row _ | exact kept_tup _ _ | exact kept_lit _ | exact kept_byt _ | exact kept_true
theorem tbO23_end (A B NA : Option Addr) (c d k nm nc : Nat) (n : Nd) (l m P Q : List Rd) (er : Int) (vh vl : Value) : ∀ i w v, 11 ≤ i → tbO23 A B NA c d k nm nc n l m P Q er vh vl i w v := fun i w v h => by
  unfold tbO23
  split <;> first | trivial | (exfalso; omega)
def tbO24 (A B NA : Option Addr) (c d k nm nc : Nat) (n : Nd) (l m P Q : List Rd) (er : Int) (vh vl : Value) (i : Nat) : World → Value → Prop := match i with
  | 4 => fun w v => LitV w v [(l.drop k), []]
  | 5 => fun w v => TupV w v Q er
  | 6 => fun w v => TupV w v Q er
  | 7 => fun w v => RowV w v Q
  | 9 => fun w v => RowV w v Q
  | _ => fun _ _ => True
def vtO24 (A B NA : Option Addr) (c d k nm nc : Nat) (n : Nd) (l m P Q : List Rd) (er : Int) (vh vl : Value) (i : Nat) (v : Value) : Prop := match i with
  | 0 => v = .agg #[.int .u8 (n.k : Nat), .int .u8 (n.a : Nat), .int .i64 n.b, .int .i64 n.d, .slice NA nm nc]
  | 1 => v = .slice A l.length c
  | 2 => v = .int .i64 (k : Nat)
  | 3 => v = vl
  | 8 => v = .int .i64 er
  | _ => True
theorem tbO24_keep (A B NA : Option Addr) (c d k nm nc : Nat) (n : Nd) (l m P Q : List Rd) (er : Int) (vh vl : Value) : ∀ i, Kept (tbO24 A B NA c d k nm nc n l m P Q er vh vl i) := fun i => by
  unfold tbO24
  split <;> first | exact kept_row _ | exact kept_tup _ _ | exact kept_lit _ | exact kept_byt _ | exact kept_true
theorem tbO24_end (A B NA : Option Addr) (c d k nm nc : Nat) (n : Nd) (l m P Q : List Rd) (er : Int) (vh vl : Value) : ∀ i w v, 10 ≤ i → tbO24 A B NA c d k nm nc n l m P Q er vh vl i w v := fun i w v h => by
  unfold tbO24
  split <;> first | trivial | (exfalso; omega)
def tbO15 (A B NA : Option Addr) (c d k nm nc : Nat) (n : Nd) (l m P Q : List Rd) (er : Int) (vh vl : Value) (i : Nat) : World → Value → Prop := match i with
  | 4 => fun w v => LitV w v [(l.take k)]
  | 5 => fun w v => TupV w v P er
  | 6 => fun w v => TupV w v P er
  | 7 => fun w v => RowV w v P
  | 9 => fun w v => RowV w v P
  | _ => fun _ _ => True
def vtO15 (A B NA : Option Addr) (c d k nm nc : Nat) (n : Nd) (l m P Q : List Rd) (er : Int) (vh vl : Value) (i : Nat) (v : Value) : Prop := match i with
  | 0 => v = .agg #[.int .u8 (n.k : Nat), .int .u8 (n.a : Nat), .int .i64 n.b, .int .i64 n.d, .slice NA nm nc]
  | 1 => v = .slice A l.length c
  | 2 => v = .int .i64 (k : Nat)
  | 3 => v = vh
  | 8 => v = .int .i64 er
  | _ => True
theorem tbO15_keep (A B NA : Option Addr) (c d k nm nc : Nat) (n : Nd) (l m P Q : List Rd) (er : Int) (vh vl : Value) : ∀ i, Kept (tbO15 A B NA c d k nm nc n l m P Q er vh vl i) := fun i => by
  unfold tbO15
  split <;> first | exact kept_row _ | exact kept_tup _ _ | exact kept_lit _ | exact kept_byt _ | exact kept_true
theorem tbO15_end (A B NA : Option Addr) (c d k nm nc : Nat) (n : Nd) (l m P Q : List Rd) (er : Int) (vh vl : Value) : ∀ i w v, 10 ≤ i → tbO15 A B NA c d k nm nc n l m P Q er vh vl i w v := fun i w v h => by
  unfold tbO15
  split <;> first | trivial | (exfalso; omega)
def tbO16 (A B NA : Option Addr) (c d k nm nc : Nat) (n : Nd) (l m P Q : List Rd) (er : Int) (vh vl : Value) (i : Nat) : World → Value → Prop := match i with
  | 4 => fun w v => LitV w v [(l.drop k)]
  | 5 => fun w v => TupV w v Q er
  | 6 => fun w v => TupV w v Q er
  | 7 => fun w v => RowV w v Q
  | 9 => fun w v => RowV w v Q
  | _ => fun _ _ => True
def vtO16 (A B NA : Option Addr) (c d k nm nc : Nat) (n : Nd) (l m P Q : List Rd) (er : Int) (vh vl : Value) (i : Nat) (v : Value) : Prop := match i with
  | 0 => v = .agg #[.int .u8 (n.k : Nat), .int .u8 (n.a : Nat), .int .i64 n.b, .int .i64 n.d, .slice NA nm nc]
  | 1 => v = .slice A l.length c
  | 2 => v = .int .i64 (k : Nat)
  | 3 => v = vl
  | 8 => v = .int .i64 er
  | _ => True
theorem tbO16_keep (A B NA : Option Addr) (c d k nm nc : Nat) (n : Nd) (l m P Q : List Rd) (er : Int) (vh vl : Value) : ∀ i, Kept (tbO16 A B NA c d k nm nc n l m P Q er vh vl i) := fun i => by
  unfold tbO16
  split <;> first | exact kept_row _ | exact kept_tup _ _ | exact kept_lit _ | exact kept_byt _ | exact kept_true
theorem tbO16_end (A B NA : Option Addr) (c d k nm nc : Nat) (n : Nd) (l m P Q : List Rd) (er : Int) (vh vl : Value) : ∀ i w v, 10 ≤ i → tbO16 A B NA c d k nm nc n l m P Q er vh vl i w v := fun i w v h => by
  unfold tbO16
  split <;> first | trivial | (exfalso; omega)
set_option maxHeartbeats 32000000 in
theorem walk (n : Nd) (NA : Option Addr) (nm nc : Nat) (hn : NodeOk n) (A B : Option Addr) (l m : List Rd) (c d : Nat) (cut : Int) (hcut : -9223372036854775808 ≤ cut ∧ cut ≤ 9223372036854775807) (w : World) (hA : RowV w (.slice A l.length c) l) (hB : RowV w (.slice B m.length d) m) (hW : ∀ r ∈ l, r.W) (hV : ∀ r ∈ m, r.W) :
    Calls Try.prog 6 #[nodeV n NA nm nc, .slice A l.length c, .slice B m.length d, .int .i64 cut] w fun e w' => e = .returned (.bool true) ∧ Below w.heap.size w w' := by
  have HA := Lib.hid hA; have HB := Lib.hid hB; have HW := Lib.hid hW; have HV := Lib.hid hV; clear hA hB hW hV
  by_cases hx : 60 < l.length
  · have hzl : (60 : Int) < (l.length : Int) := by omega
    have dl : decide ((60 : Int) < (l.length : Int)) = true := by simp; omega
    go_enter Try.func6, Try.ntmps6
    go_wp2_with fail
    refine (works_any _).mono ?_; rintro e w9 ⟨rfl, hb9⟩
    dsimp only
    go_wp2_with fail
    go_ret
    exact ⟨rfl, ((Below.refl _ w).alloc (Nat.le_refl _) _).trans (hb9.mono (by simp))⟩
  · have hzl : ¬ (60 : Int) < (l.length : Int) := by omega
    have dl : decide ((60 : Int) < (l.length : Int)) = false := by simp; omega
    have hl : l.length ≤ 60 := by omega
    clear hx
    by_cases hx : 60 < m.length
    · have hzm : (60 : Int) < (m.length : Int) := by omega
      have dm : decide ((60 : Int) < (m.length : Int)) = true := by simp; omega
      go_enter Try.func6, Try.ntmps6
      go_wp2_with fail
      refine (works_any _).mono ?_; rintro e w9 ⟨rfl, hb9⟩
      dsimp only
      go_wp2_with fail
      go_ret
      exact ⟨rfl, ((Below.refl _ w).alloc (Nat.le_refl _) _).trans (hb9.mono (by simp))⟩
    · have hzm : ¬ (60 : Int) < (m.length : Int) := by omega
      have dm : decide ((60 : Int) < (m.length : Int)) = false := by simp; omega
      have hm : m.length ≤ 60 := by omega
      clear hx
      have hnb : NB n NA nm nc w.heap.size (w.alloc (.cells #[.int .u8 (n.k : Nat), .int .u8 (n.a : Nat), .int .i64 n.b, .int .i64 n.d, .slice NA nm nc] 24)) := node_box w n NA nm nc
      have hbn := (Below.refl _ w).alloc (Nat.le_refl _) (.cells #[.int .u8 (n.k : Nat), .int .u8 (n.a : Nat), .int .i64 n.b, .int .i64 n.d, .slice NA nm nc] 24)
      have h := HA.out.below hbn; clear HA; have HA := Lib.hid h; clear h
      have h := HB.out.below hbn; clear HB; have HB := Lib.hid h; clear h
      have HNB := Lib.hid hnb; have HBN := Lib.hid hbn; clear hnb hbn
      have s1 : IntKind.i64.wrap ((l.length : Int) - 1) = (l.length : Int) - 1 := IntWalk.i64_in _ (by omega)
      go_enter Try.func6, Try.ntmps6
      go_upto_region 3 with fail
      generalize w.alloc (.cells #[.int .u8 (n.k : Nat), .int .u8 (n.a : Nat), .int .i64 n.b, .int .i64 n.d, .slice NA nm nc] 24) = w1 at *
      go_wp2_with fail
      go_loopw [9, 10] (fun fv vi wr => ∃ p : Nat, p ≤ l.length ∧ vi = .int .i64 ((p : Int) - 1) ∧ wr.ownsRow w1.heap.size 36 kindR.K fv (l.drop p).reverse.length (Rw.row kindR (l.drop p).reverse) ∧ Below w1.heap.size w1 wr) (fun _ vi _ => (intOf vi + 1).toNat)
      case atStart => exact ⟨l.length, Nat.le_refl _, rfl, by rw [List.drop_length]; exact World.ownsRow_nil _ _ _ _, Below.refl _ _⟩
      case round =>
        obtain ⟨p, hp, rfl, hown, hb0⟩ := hrel
        have HO := Lib.hid hown; have HBR := Lib.hid hb0; clear hown hb0 s1
        obtain rfl | ⟨q, rfl⟩ : p = 0 ∨ ∃ q, p = q + 1 := by cases p; exact .inl rfl; exact .inr ⟨_, rfl⟩
        · have h := HO.out
          rw [List.drop_zero] at h
          have hback := RowV.own h
          clear h HO
          obtain ⟨lb, hlb⟩ : ∃ lb, l.reverse = lb := ⟨_, rfl⟩
          rw [hlb] at hback
          have HLB := Lib.hid (show lb.Perm l by rw [← hlb]; exact List.reverse_perm l); clear hlb
          obtain ⟨Ar, cr, rfl, zr⟩ := hback
          have HBK := Lib.hid (show RowV wr (.slice Ar lb.length cr) lb from ⟨Ar, cr, rfl, zr⟩); clear zr
          have h := HA.out.below HBR.out; clear HA; have HA := Lib.hid h; clear h
          have h := HB.out.below HBR.out; clear HB; have HB := Lib.hid h; clear h
          have h := HNB.out.below HBR.out; clear HNB; have HNB := Lib.hid h; clear h
          have h := HBN.out.trans (HBR.out.mono HBN.out.size); clear HBN HBR; have HBN := Lib.hid h; clear h
          rw [show ((0 : Nat) : Int) - 1 = -1 from rfl]
          obtain ⟨bb, hbb⟩ : ∃ bb, decide (0 < l.length ∧ 0 ≤ cut) = bb := ⟨_, rfl⟩
          have HBB := Lib.hid hbb; clear hbb
          go_upto_region 9 with fail
          go_cut [45] from 39 to 45 (fun v wx => v = .bool bb ∧ Below wr.heap.size wr wx)
          case first =>
            by_cases g1 : 0 < l.length
            · have z1 : decide ((l.length : Int) > 0) = true := decide_eq_true (by omega)
              have z3 : decide ((0 : Int) < (l.length : Int)) = true := decide_eq_true (by omega)
              have z5 : (0 : Int) < (l.length : Int) := by omega
              by_cases g2 : 0 ≤ cut
              · have z2 : decide (cut ≥ 0) = true := decide_eq_true g2
                have z4 : decide (0 ≤ cut) = true := decide_eq_true g2
                have z6 : 0 ≤ cut := g2
                have hv := HBB.out
                rw [decide_eq_true ⟨g1, g2⟩] at hv
                have HVV := Lib.hid hv; clear hv g1 g2
                go_wp2_with fail
                go_meet
                exact ⟨by rw [← HVV.out], Below.refl _ _⟩
              · have z2 : decide (cut ≥ 0) = false := decide_eq_false g2
                have z4 : decide (0 ≤ cut) = false := decide_eq_false g2
                have z6 : ¬ 0 ≤ cut := g2
                have hv := HBB.out
                rw [decide_eq_false (fun h => g2 h.2)] at hv
                have HVV := Lib.hid hv; clear hv g1 g2
                go_wp2_with fail
                go_meet
                exact ⟨by rw [← HVV.out], Below.refl _ _⟩
            · have z1 : decide ((l.length : Int) > 0) = false := decide_eq_false (by omega)
              have z3 : decide ((0 : Int) < (l.length : Int)) = false := decide_eq_false (by omega)
              have z5 : ¬ (0 : Int) < (l.length : Int) := by omega
              have hv := HBB.out
              rw [decide_eq_false (fun h => g1 h.1)] at hv
              have HVV := Lib.hid hv; clear hv g1
              go_wp2_with fail
              go_meet
              exact ⟨by rw [← HVV.out], Below.refl _ _⟩
          case rest =>
            obtain ⟨rfl, hbc⟩ := hcut
            have HBC := Lib.hid hbc; clear hbc
            go_upto_if 45 with fail
            go_cut [11] from 46 to 50 (fun v wx => ∃ k : Nat, k ≤ l.length ∧ v = .int .i64 k ∧ Below wc.heap.size wc wx)
            case first =>
              cases bb with
              | false =>
                go_wp2_with fail
                go_meet
                exact ⟨0, by omega, rfl, Below.refl _ _⟩
              | true =>
                obtain ⟨g1, g2⟩ := of_decide_eq_true HBB.out
                have s2 : ¬ (l.length : Int) + 1 = 0 := by omega
                have s3 : IntKind.i64.wrap ((l.length : Int) + 1) = (l.length : Int) + 1 := IntWalk.i64_in _ (by omega)
                have h4 := Int.tmod_eq_emod_of_nonneg (a := cut) (b := (l.length : Int) + 1) g2
                have h5 := Int.emod_nonneg cut s2
                have h6 := Int.emod_lt_of_pos cut (show (0 : Int) < (l.length : Int) + 1 by omega)
                obtain ⟨k, hk⟩ := Int.eq_ofNat_of_zero_le h5
                rw [hk] at h4
                have s5 : IntKind.i64.wrap (k : Int) = (k : Int) := IntWalk.i64_in _ (by omega)
                have h7 : k ≤ l.length := by omega
                clear h5 h6 hk g1 g2
                go_wp2_with fail
                go_meet
                exact ⟨k, h7, rfl, Below.refl _ _⟩
            case rest =>
              obtain ⟨k, hkl, rfl, hbd⟩ := hcut
              have hb := HBC.out.trans (hbd.mono HBC.out.size)
              clear hbd HBC HBB
              have h := HA.out.below hb; clear HA; have HA := Lib.hid h; clear h
              have h := HB.out.below hb; clear HB; have HB := Lib.hid h; clear h
              have h := HNB.out.below hb; clear HNB; have HNB := Lib.hid h; clear h
              have h := HBK.out.below hb; clear HBK; have HBK := Lib.hid h; clear h
              have h := HBN.out.trans (hb.mono HBN.out.size); clear HBN; have HBN := Lib.hid h; clear h hb
              generalize wc = w2 at *
              by_cases k1 : n.k = 1
              · have HZ := Lib.hid k1; clear k1
                have z1 : (((n.k : Nat) : Int) == 1) = true := by have := HZ.out; simp; omega
                have hcs := cells5 HNB.out
                obtain ⟨n0, n1, n2, n3, n4⟩ := hcs
                go_wp2_with fail
                refine (works_any _).mono ?_; rintro e w9 ⟨rfl, hb9⟩
                dsimp only
                go_wp2_with fail
                go_ret
                exact ⟨rfl, HBN.out.trans (hb9.mono HBN.out.size)⟩
              · have z1 : (((n.k : Nat) : Int) == 1) = false := by simp; omega
                by_cases k4 : n.k = 4
                · have z4 : (((n.k : Nat) : Int) == 4) = true := by simp; omega
                  have h5 : n.k ≠ 5 := by omega
                  have h6 : n.k ≠ 6 := by omega
                  have HWT := Lib.hid (show waitsB n.k = false from decide_eq_false (by omega))
                  obtain ⟨X, hX⟩ : ∃ X, runR n [l, m] = X := ⟨_, rfl⟩
                  obtain ⟨P, hP⟩ : ∃ P, runR n [l.take k, m] = P := ⟨_, rfl⟩
                  obtain ⟨Q, hQ⟩ : ∃ Q, runR n [l.drop k, []] = Q := ⟨_, rfl⟩
                  obtain ⟨er, her⟩ : ∃ er, errR n 2 = er := ⟨_, rfl⟩
                  have hY : runR n [lb, m] = X := by rw [← hX]; exact run_perm2 HLB.out
                  have htl : (l.take k).length ≤ 60 := by rw [List.length_take]; omega
                  have hdl : (l.drop k).length ≤ 60 := by rw [List.length_drop]; omega
                  have hlen : ∀ {a b : List Rd}, a.length ≤ 60 → b.length ≤ 60 → (runR n [a, b]).length ≤ 3720 := fun {a b} h1 h2 => by
                    have h3 := run_len2 (n := n) (a := a) (b := b)
                    have h4 : a.length * b.length ≤ 60 * 60 := Nat.mul_le_mul h1 h2
                    omega
                  have hXl : X.length ≤ 3720 := by rw [← hX]; exact hlen hl hm
                  have hPl : P.length ≤ 3720 := by rw [← hP]; exact hlen htl hm
                  have hQl : Q.length ≤ 3720 := by rw [← hQ]; exact hlen hdl (by simp)
                  have HR1 := Lib.hid (run_o2 hn NA nm nc HW.out HV.out hl hm X er hX her)
                  have HR2 := Lib.hid (run_o2 hn NA nm nc (fun r hr => HW.out r (HLB.out.mem_iff.1 hr)) HV.out (by rw [HLB.out.length_eq]; exact hl) hm X er hY her)
                  have HR3 := Lib.hid (run_o2 hn NA nm nc (fun r hr => HW.out r (List.mem_of_mem_take hr)) HV.out htl hm P er hP her)
                  have HR4 := Lib.hid (run_o2 hn NA nm nc (fun r hr => HW.out r (List.mem_of_mem_drop hr)) (fun r hr => by simp at hr) hdl (by simp) Q er hQ her)
                  have hl5 : lb.length ≤ 60 := by rw [HLB.out.length_eq]; exact hl
                  have hPQ := run_app2 (n := n) (x := l.take k) (y := l.drop k) (z := m) (u := []) h5 h6
                  rw [List.take_append_drop, List.append_nil, hP, hQ, hX] at hPQ
                  have HADD := Lib.hid (fun (w : World) (v : Value) (h : LitV w v [P, Q]) => add_v h (by simp) (by simp; omega))
                  rw [hPQ] at HADD
                  clear hPQ
                  clear h5 h6 k1 k4 hX hP hQ hY her htl hdl hlen HW HV hn hcut
                  have hcs := cells5 HNB.out
                  obtain ⟨n0, n1, n2, n3, n4⟩ := hcs
                  have hc := HR1.out _ _ (LitV.made w2 [.slice A l.length c, .slice B m.length d] [l, m] ⟨HA.out, HB.out, trivial⟩ #[.slice A l.length c, .slice B m.length d] rfl 2 rfl)
                  have HC := Lib.hid hc; clear hc
                  go_wp2_with fail
                  refine HC.out.mono ?_; rintro e w31 ⟨⟨v, rfl, hr⟩, hb0⟩
                  clear HC n0 n1 n2 n3 n4
                  have hb : Below w2.heap.size w2 w31 := ((Below.refl _ w2).alloc (Nat.le_refl _) _).trans (hb0.mono (by simp))
                  clear hb0
                  have h := HA.out.below hb; clear HA; have HA := Lib.hid h; clear h
                  have h := HB.out.below hb; clear HB; have HB := Lib.hid h; clear h
                  have h := HNB.out.below hb; clear HNB; have HNB := Lib.hid h; clear h
                  have h := HBK.out.below hb; clear HBK; have HBK := Lib.hid h; clear h
                  have h := HBN.out.trans (hb.mono HBN.out.size); clear HBN hb; have HBN := Lib.hid h; clear h
                  obtain ⟨Ax, cx, rfl, zx⟩ := hr
                  have Hx := Lib.hid (show RowV w31 (.slice Ax (X : List Rd).length cx) X from ⟨Ax, cx, rfl, zx⟩); clear zx
                  dsimp only
                  have hcs := cells5 HNB.out
                  obtain ⟨n0, n1, n2, n3, n4⟩ := hcs
                  have hc := HR2.out _ _ (LitV.made w31 [.slice Ar lb.length cr, .slice B m.length d] [lb, m] ⟨HBK.out, HB.out, trivial⟩ #[.slice Ar lb.length cr, .slice B m.length d] rfl 2 rfl)
                  have HC := Lib.hid hc; clear hc
                  go_wp2_with fail
                  refine HC.out.mono ?_; rintro e w32 ⟨⟨v, rfl, hr⟩, hb0⟩
                  clear HC n0 n1 n2 n3 n4
                  have hb : Below w31.heap.size w31 w32 := ((Below.refl _ w31).alloc (Nat.le_refl _) _).trans (hb0.mono (by simp))
                  clear hb0
                  have h := HA.out.below hb; clear HA; have HA := Lib.hid h; clear h
                  have h := HB.out.below hb; clear HB; have HB := Lib.hid h; clear h
                  have h := HNB.out.below hb; clear HNB; have HNB := Lib.hid h; clear h
                  have h := HBK.out.below hb; clear HBK; have HBK := Lib.hid h; clear h
                  have h := Hx.out.below hb; clear Hx; have Hx := Lib.hid h; clear h
                  have h := HBN.out.trans (hb.mono HBN.out.size); clear HBN hb; have HBN := Lib.hid h; clear h
                  obtain ⟨Ay, cy, rfl, zy⟩ := hr
                  have Hy := Lib.hid (show RowV w32 (.slice Ay (X : List Rd).length cy) X from ⟨Ay, cy, rfl, zy⟩); clear zy
                  dsimp only
                  obtain ⟨vh, hsh, hrh⟩ := slice_hi HA.out hkl
                  obtain ⟨vl, hsl, hrl⟩ := slice_lo HA.out hkl
                  have HSH := Lib.hid hsh; have HRH := Lib.hid hrh; have HSL := Lib.hid hsl; have HRL := Lib.hid hrl
                  clear hsh hrh hsl hrl
                  have hld := NB.load HNB.out
                  have HLD := Lib.hid hld; clear hld
                  go_upto_region 23 with fail
                  have tbk := tbO23_keep A B NA c d k nm nc n l m P Q er vh vl
                  refine Free.wp_key (by kernel_rfl) (by kernel_rfl) (FT _ (tbO23 A B NA c d k nm nc n l m P Q er vh vl)) (vtO23 A B NA c d k nm nc n l m P Q er vh vl) (fun vs => FT.start (tbO23_end A B NA c d k nm nc n l m P Q er vh vl)) ?_ ?_
                  · intro i o hi b vs a wa hold hpre hbi hF
                    match i with
                    | 0 =>
                      cases hi
                      have h0 : a.eval (.tmp 4) = .pointer (some ⟨w.heap.size, 0, none⟩) := (hold 4 (by decide)).trans rfl
                      exact Free.c_all rfl (Free.g_load _ _ rfl h0 (HLD.out wa hF.1) ⟨rfl, hF.step tbk (Below.refl _ _) trivial⟩)
                    | 1 =>
                      cases hi
                      have h0 : a.eval (.tmp 1) = .slice A l.length c := (hold 1 (by decide)).trans rfl
                      exact Free.c_all rfl (Free.g_move _ rfl ⟨h0, hF.step tbk (Below.refl _ _) trivial⟩)
                    | 2 =>
                      cases hi
                      have h0 : a.eval (.tmp 11) = .int .i64 (k : Nat) := (hold 11 (by decide)).trans rfl
                      exact Free.c_all rfl (Free.g_move _ rfl ⟨h0, hF.step tbk (Below.refl _ _) trivial⟩)
                    | 3 =>
                      cases hi
                      have h1 : a.eval (.tmp 109) = .slice A l.length c := (hpre 1 _ _ (by kernel_rfl) rfl rfl).2.2
                      have h2 : a.eval (.tmp 110) = .int .i64 (k : Nat) := (hpre 2 _ _ (by kernel_rfl) rfl rfl).2.2
                      exact Free.c_all rfl (m_slice _ _ _ _ _ _ _ _ _ rfl h1 rfl (by show some (a.eval (.tmp 110)) = _; rw [h2]) rfl (HSH.out wa) ⟨rfl, hF.step tbk (Below.refl _ _) trivial⟩)
                    | 4 =>
                      cases hi
                      have h0 : a.eval (.tmp 2) = .slice B m.length d := (hold 2 (by decide)).trans rfl
                      exact Free.c_all rfl (Free.g_move _ rfl ⟨h0, hF.step tbk (Below.refl _ _) trivial⟩)
                    | 5 =>
                      cases hi
                      have e0 : a.eval (.tmp 111) = vh := (hpre 3 _ _ (by kernel_rfl) rfl rfl).2.2
                      have r0 := (HRH.out).below hF.1
                      have e1 : a.eval (.tmp 112) = .slice B m.length d := (hpre 4 _ _ (by kernel_rfl) rfl rfl).2.2
                      have r1 := (HB.out).below hF.1
                      obtain ⟨A0, c0, q0, z0⟩ := r0
                      obtain ⟨A1, c1, q1, z1⟩ := r1
                      have f0 := e0.trans q0
                      have f1 := e1.trans q1
                      exact Free.c_all rfl (Vr.m_lit _ _ _ [(0, .slice A0 ((l.take k) : List Rd).length c0), (1, .slice A1 (m : List Rd).length c1)] rfl (by show [(0, a.eval (.tmp 111)), (1, a.eval (.tmp 112))] = _; rw [f0, f1]) (build_l2 wa A0 A1 _ c0 _ c1) ⟨trivial, hF.step tbk ((Below.refl _ _).alloc (Nat.le_refl _) _) (LitV.made wa [.slice A0 ((l.take k) : List Rd).length c0, .slice A1 (m : List Rd).length c1] [(l.take k), m] ⟨⟨A0, c0, rfl, z0⟩, ⟨A1, c1, rfl, z1⟩, trivial⟩ _ rfl _ rfl)⟩)
                    | 6 =>
                      cases hi
                      have h0 : a.eval (.tmp 108) = .agg #[.int .u8 (n.k : Nat), .int .u8 (n.a : Nat), .int .i64 n.b, .int .i64 n.d, .slice NA nm nc] := (hpre 0 _ _ (by kernel_rfl) rfl rfl).2.2
                      have p1 := hpre 5 _ _ (by kernel_rfl) rfl rfl
                      have e1 : a.eval (.tmp 113) = vs 5 := p1.2.1
                      have r1 := hF.2 5 p1.1
                      change LitV wa (vs 5) [(l.take k), m] at r1
                      refine Free.c_all rfl (Free.g_call _ _ rfl Try.func14 (by kernel_rfl) rfl [.agg #[.int .u8 (n.k : Nat), .int .u8 (n.a : Nat), .int .i64 n.b, .int .i64 n.d, .slice NA nm nc], vs 5] (by show [a.eval (.tmp 108), a.eval (.tmp 113)] = _; rw [h0, e1]) ?_)
                      exact (HR3.out _ _ r1).mono fun e w2 ⟨⟨v9, he, hr9⟩, hb9⟩ => ⟨_, he, trivial, hF.step tbk hb9 ⟨v9, rfl, hr9⟩⟩
                    | 7 =>
                      cases hi
                      have p0 := hpre 6 _ _ (by kernel_rfl) rfl rfl
                      have e0 : a.eval (.tmp 114) = vs 6 := p0.2.1
                      have r0 := hF.2 6 p0.1
                      exact Free.c_all rfl (Free.g_move _ rfl ⟨trivial, hF.step tbk (Below.refl _ _) (by rw [e0]; exact r0)⟩)
                    | 8 =>
                      cases hi
                      have p0 := hpre 7 _ _ (by kernel_rfl) rfl rfl
                      have e0 : a.eval (.tmp 107) = vs 7 := p0.2.1
                      obtain ⟨v9, e9, r9⟩ := hF.2 7 p0.1
                      exact Free.c_all rfl (m_extract0 _ rfl (e0.trans e9) ⟨trivial, hF.step tbk (Below.refl _ _) r9⟩)
                    | 9 =>
                      cases hi
                      have p0 := hpre 7 _ _ (by kernel_rfl) rfl rfl
                      have e0 : a.eval (.tmp 107) = vs 7 := p0.2.1
                      obtain ⟨v9, e9, r9⟩ := hF.2 7 p0.1
                      exact Free.c_all rfl (m_extract1 _ rfl (e0.trans e9) ⟨rfl, hF.step tbk (Below.refl _ _) trivial⟩)
                    | 10 =>
                      cases hi
                      have p0 := hpre 8 _ _ (by kernel_rfl) rfl rfl
                      have e0 : a.eval (.tmp 115) = vs 8 := p0.2.1
                      have r0 := hF.2 8 p0.1
                      exact Free.c_all rfl (Free.g_assign _ rfl ⟨trivial, hF.step tbk (Below.refl _ _) (by rw [e0]; exact r0)⟩)
                    | _ + 11 => cases hi
                  · intro vs we hv hF
                    have k10 := hF.2 10 rfl
                    change RowV we (vs 10) P at k10
                    have HWE := Lib.hid hF.1; clear hF hv tbk
                    simp only [Free.puts, Nat.reduceAdd]
                    generalize vs 0 = y0 at *
                    generalize vs 1 = y1 at *
                    generalize vs 2 = y2 at *
                    generalize vs 3 = y3 at *
                    generalize vs 4 = y4 at *
                    generalize vs 5 = y5 at *
                    generalize vs 6 = y6 at *
                    generalize vs 7 = y7 at *
                    generalize vs 8 = y8 at *
                    generalize vs 9 = y9 at *
                    generalize vs 10 = y10 at *
                    obtain ⟨Ap, cp, rfl, zp⟩ := k10
                    have Hp := Lib.hid (show RowV we (.slice Ap (P : List Rd).length cp) P from ⟨Ap, cp, rfl, zp⟩); clear zp
                    go_simp
                    have h := HA.out.below HWE.out; clear HA; have HA := Lib.hid h; clear h
                    have h := HB.out.below HWE.out; clear HB; have HB := Lib.hid h; clear h
                    have h := HNB.out.below HWE.out; clear HNB; have HNB := Lib.hid h; clear h
                    have h := HBK.out.below HWE.out; clear HBK; have HBK := Lib.hid h; clear h
                    have h := Hx.out.below HWE.out; clear Hx; have Hx := Lib.hid h; clear h
                    have h := Hy.out.below HWE.out; clear Hy; have Hy := Lib.hid h; clear h
                    have h := HRH.out.below HWE.out; clear HRH; have HRH := Lib.hid h; clear h
                    have h := HRL.out.below HWE.out; clear HRL; have HRL := Lib.hid h; clear h
                    have h := HBN.out.trans (HWE.out.mono HBN.out.size); clear HBN HWE; have HBN := Lib.hid h; clear h
                    clear HLD
                    have hld := NB.load HNB.out
                    have HLD := Lib.hid hld; clear hld
                    go_upto_region 24 with fail
                    have tbk := tbO24_keep A B NA c d k nm nc n l m P Q er vh vl
                    refine Free.wp_key (by kernel_rfl) (by kernel_rfl) (FT _ (tbO24 A B NA c d k nm nc n l m P Q er vh vl)) (vtO24 A B NA c d k nm nc n l m P Q er vh vl) (fun vs => FT.start (tbO24_end A B NA c d k nm nc n l m P Q er vh vl)) ?_ ?_
                    · intro i o hi b vs a wa hold hpre hbi hF
                      match i with
                      | 0 =>
                        cases hi
                        have h0 : a.eval (.tmp 4) = .pointer (some ⟨w.heap.size, 0, none⟩) := (hold 4 (by decide)).trans rfl
                        exact Free.c_all rfl (Free.g_load _ _ rfl h0 (HLD.out wa hF.1) ⟨rfl, hF.step tbk (Below.refl _ _) trivial⟩)
                      | 1 =>
                        cases hi
                        have h0 : a.eval (.tmp 1) = .slice A l.length c := (hold 1 (by decide)).trans rfl
                        exact Free.c_all rfl (Free.g_move _ rfl ⟨h0, hF.step tbk (Below.refl _ _) trivial⟩)
                      | 2 =>
                        cases hi
                        have h0 : a.eval (.tmp 11) = .int .i64 (k : Nat) := (hold 11 (by decide)).trans rfl
                        exact Free.c_all rfl (Free.g_move _ rfl ⟨h0, hF.step tbk (Below.refl _ _) trivial⟩)
                      | 3 =>
                        cases hi
                        have h1 : a.eval (.tmp 119) = .slice A l.length c := (hpre 1 _ _ (by kernel_rfl) rfl rfl).2.2
                        have h2 : a.eval (.tmp 120) = .int .i64 (k : Nat) := (hpre 2 _ _ (by kernel_rfl) rfl rfl).2.2
                        exact Free.c_all rfl (m_slice _ _ _ _ _ _ _ _ _ rfl h1 (by show some (a.eval (.tmp 120)) = _; rw [h2]) rfl rfl (HSL.out wa) ⟨rfl, hF.step tbk (Below.refl _ _) trivial⟩)
                      | 4 =>
                        cases hi
                        have e0 : a.eval (.tmp 121) = vl := (hpre 3 _ _ (by kernel_rfl) rfl rfl).2.2
                        have r0 := (HRL.out).below hF.1
                        have r1 := RowV.nil wa
                        obtain ⟨A0, c0, q0, z0⟩ := r0
                        obtain ⟨A1, c1, q1, z1⟩ := r1
                        have f0 := e0.trans q0
                        exact Free.c_all rfl (Vr.m_lit _ _ _ [(0, .slice A0 ((l.drop k) : List Rd).length c0), (1, .slice A1 ([] : List Rd).length c1)] rfl (by show [(0, a.eval (.tmp 121)), (1, a.eval (.const (.slice none 0 0)))] = _; rw [f0, (show a.eval (.const (.slice none 0 0)) = .slice A1 (([] : List Rd)).length c1 from q1)]) (build_l2 wa A0 A1 _ c0 _ c1) ⟨trivial, hF.step tbk ((Below.refl _ _).alloc (Nat.le_refl _) _) (LitV.made wa [.slice A0 ((l.drop k) : List Rd).length c0, .slice A1 ([] : List Rd).length c1] [(l.drop k), []] ⟨⟨A0, c0, rfl, z0⟩, ⟨A1, c1, rfl, z1⟩, trivial⟩ _ rfl _ rfl)⟩)
                      | 5 =>
                        cases hi
                        have h0 : a.eval (.tmp 118) = .agg #[.int .u8 (n.k : Nat), .int .u8 (n.a : Nat), .int .i64 n.b, .int .i64 n.d, .slice NA nm nc] := (hpre 0 _ _ (by kernel_rfl) rfl rfl).2.2
                        have p1 := hpre 4 _ _ (by kernel_rfl) rfl rfl
                        have e1 : a.eval (.tmp 122) = vs 4 := p1.2.1
                        have r1 := hF.2 4 p1.1
                        change LitV wa (vs 4) [(l.drop k), []] at r1
                        refine Free.c_all rfl (Free.g_call _ _ rfl Try.func14 (by kernel_rfl) rfl [.agg #[.int .u8 (n.k : Nat), .int .u8 (n.a : Nat), .int .i64 n.b, .int .i64 n.d, .slice NA nm nc], vs 4] (by show [a.eval (.tmp 118), a.eval (.tmp 122)] = _; rw [h0, e1]) ?_)
                        exact (HR4.out _ _ r1).mono fun e w2 ⟨⟨v9, he, hr9⟩, hb9⟩ => ⟨_, he, trivial, hF.step tbk hb9 ⟨v9, rfl, hr9⟩⟩
                      | 6 =>
                        cases hi
                        have p0 := hpre 5 _ _ (by kernel_rfl) rfl rfl
                        have e0 : a.eval (.tmp 123) = vs 5 := p0.2.1
                        have r0 := hF.2 5 p0.1
                        exact Free.c_all rfl (Free.g_move _ rfl ⟨trivial, hF.step tbk (Below.refl _ _) (by rw [e0]; exact r0)⟩)
                      | 7 =>
                        cases hi
                        have p0 := hpre 6 _ _ (by kernel_rfl) rfl rfl
                        have e0 : a.eval (.tmp 117) = vs 6 := p0.2.1
                        obtain ⟨v9, e9, r9⟩ := hF.2 6 p0.1
                        exact Free.c_all rfl (m_extract0 _ rfl (e0.trans e9) ⟨trivial, hF.step tbk (Below.refl _ _) r9⟩)
                      | 8 =>
                        cases hi
                        have p0 := hpre 6 _ _ (by kernel_rfl) rfl rfl
                        have e0 : a.eval (.tmp 117) = vs 6 := p0.2.1
                        obtain ⟨v9, e9, r9⟩ := hF.2 6 p0.1
                        exact Free.c_all rfl (m_extract1 _ rfl (e0.trans e9) ⟨rfl, hF.step tbk (Below.refl _ _) trivial⟩)
                      | 9 =>
                        cases hi
                        have p0 := hpre 7 _ _ (by kernel_rfl) rfl rfl
                        have e0 : a.eval (.tmp 124) = vs 7 := p0.2.1
                        have r0 := hF.2 7 p0.1
                        exact Free.c_all rfl (Free.g_assign _ rfl ⟨trivial, hF.step tbk (Below.refl _ _) (by rw [e0]; exact r0)⟩)
                      | _ + 10 => cases hi
                    · intro vs wf hv hF
                      have k9 := hF.2 9 rfl
                      change RowV wf (vs 9) Q at k9
                      have HWE := Lib.hid hF.1; clear hF hv tbk
                      simp only [Free.puts, Nat.reduceAdd]
                      generalize vs 0 = y0 at *
                      generalize vs 1 = y1 at *
                      generalize vs 2 = y2 at *
                      generalize vs 3 = y3 at *
                      generalize vs 4 = y4 at *
                      generalize vs 5 = y5 at *
                      generalize vs 6 = y6 at *
                      generalize vs 7 = y7 at *
                      generalize vs 8 = y8 at *
                      generalize vs 9 = y9 at *
                      obtain ⟨Aq, cq, rfl, zq⟩ := k9
                      have Hq := Lib.hid (show RowV wf (.slice Aq (Q : List Rd).length cq) Q from ⟨Aq, cq, rfl, zq⟩); clear zq
                      go_simp
                      have h := HA.out.below HWE.out; clear HA; have HA := Lib.hid h; clear h
                      have h := HB.out.below HWE.out; clear HB; have HB := Lib.hid h; clear h
                      have h := HNB.out.below HWE.out; clear HNB; have HNB := Lib.hid h; clear h
                      have h := HBK.out.below HWE.out; clear HBK; have HBK := Lib.hid h; clear h
                      have h := Hx.out.below HWE.out; clear Hx; have Hx := Lib.hid h; clear h
                      have h := Hy.out.below HWE.out; clear Hy; have Hy := Lib.hid h; clear h
                      have h := HRH.out.below HWE.out; clear HRH; have HRH := Lib.hid h; clear h
                      have h := HRL.out.below HWE.out; clear HRL; have HRL := Lib.hid h; clear h
                      have h := Hp.out.below HWE.out; clear Hp; have Hp := Lib.hid h; clear h
                      have h := HBN.out.trans (HWE.out.mono HBN.out.size); clear HBN HWE; have HBN := Lib.hid h; clear h
                      clear HRH HRL HSH HSL HLD HR1 HR2 HR3 HR4
                      have h := HBN.out; clear HBN; have Hb := Lib.hid h; clear h
                      have hc := alike_v Hx.out Hy.out (by omega) (by omega)
                      rw [sameR_self] at hc
                      have HC := Lib.hid hc; clear hc
                      go_wp2_with fail
                      refine HC.out.mono ?_; rintro e w50 ⟨rfl, hb0⟩
                      clear HC
                      have hb := hb0
                      clear hb0
                      have h := HA.out.below hb; clear HA; have HA := Lib.hid h; clear h
                      have h := HB.out.below hb; clear HB; have HB := Lib.hid h; clear h
                      have h := HNB.out.below hb; clear HNB; have HNB := Lib.hid h; clear h
                      have h := HBK.out.below hb; clear HBK; have HBK := Lib.hid h; clear h
                      have h := Hx.out.below hb; clear Hx; have Hx := Lib.hid h; clear h
                      have h := Hy.out.below hb; clear Hy; have Hy := Lib.hid h; clear h
                      have h := Hp.out.below hb; clear Hp; have Hp := Lib.hid h; clear h
                      have h := Hq.out.below hb; clear Hq; have Hq := Lib.hid h; clear h
                      have h := Hb.out.trans (hb.mono Hb.out.size); clear Hb hb; have Hb := Lib.hid h; clear h
                      dsimp only
                      have hcs := cells5 HNB.out
                      obtain ⟨n0, n1, n2, n3, n4⟩ := hcs
                      have hc := waits_any n.k w50
                      rw [HWT.out] at hc
                      have HC := Lib.hid hc; clear hc
                      go_wp2_with fail
                      refine HC.out.mono ?_; rintro e w0 ⟨rfl, rfl⟩
                      clear HC
                      dsimp only
                      clear n0 n1 n2 n3 n4
                      have hc := HADD.out _ _ (LitV.made w50 [.slice Ap P.length cp, .slice Aq Q.length cq] [P, Q] ⟨Hp.out, Hq.out, trivial⟩ #[.slice Ap P.length cp, .slice Aq Q.length cq] rfl 2 rfl)
                      have HC := Lib.hid hc; clear hc
                      go_wp2_with fail
                      refine HC.out.mono ?_; rintro e w52 ⟨⟨v, rfl, hr⟩, hb0⟩
                      clear HC
                      have hb : Below w50.heap.size w50 w52 := ((Below.refl _ w50).alloc (Nat.le_refl _) _).trans (hb0.mono (by simp))
                      clear hb0
                      have h := HA.out.below hb; clear HA; have HA := Lib.hid h; clear h
                      have h := HB.out.below hb; clear HB; have HB := Lib.hid h; clear h
                      have h := HNB.out.below hb; clear HNB; have HNB := Lib.hid h; clear h
                      have h := HBK.out.below hb; clear HBK; have HBK := Lib.hid h; clear h
                      have h := Hx.out.below hb; clear Hx; have Hx := Lib.hid h; clear h
                      have h := Hy.out.below hb; clear Hy; have Hy := Lib.hid h; clear h
                      have h := Hp.out.below hb; clear Hp; have Hp := Lib.hid h; clear h
                      have h := Hq.out.below hb; clear Hq; have Hq := Lib.hid h; clear h
                      have h := Hb.out.trans (hb.mono Hb.out.size); clear Hb hb; have Hb := Lib.hid h; clear h
                      obtain ⟨As, cs, rfl, zs⟩ := hr
                      have Hs := Lib.hid (show RowV w52 (.slice As (X : List Rd).length cs) X from ⟨As, cs, rfl, zs⟩); clear zs
                      dsimp only
                      have hc := alike_v Hx.out Hs.out (by omega) (by omega)
                      rw [sameR_self] at hc
                      have HC := Lib.hid hc; clear hc
                      go_wp2_with fail
                      refine HC.out.mono ?_; rintro e w53 ⟨rfl, hb0⟩
                      clear HC
                      have hb := hb0
                      clear hb0
                      have h := HA.out.below hb; clear HA; have HA := Lib.hid h; clear h
                      have h := HB.out.below hb; clear HB; have HB := Lib.hid h; clear h
                      have h := HNB.out.below hb; clear HNB; have HNB := Lib.hid h; clear h
                      have h := HBK.out.below hb; clear HBK; have HBK := Lib.hid h; clear h
                      have h := Hx.out.below hb; clear Hx; have Hx := Lib.hid h; clear h
                      have h := Hy.out.below hb; clear Hy; have Hy := Lib.hid h; clear h
                      have h := Hp.out.below hb; clear Hp; have Hp := Lib.hid h; clear h
                      have h := Hq.out.below hb; clear Hq; have Hq := Lib.hid h; clear h
                      have h := Hs.out.below hb; clear Hs; have Hs := Lib.hid h; clear h
                      have h := Hb.out.trans (hb.mono Hb.out.size); clear Hb hb; have Hb := Lib.hid h; clear h
                      dsimp only
                      have hc := works_any w53
                      have HC := Lib.hid hc; clear hc
                      go_wp2_with fail
                      refine HC.out.mono ?_; rintro e w54 ⟨rfl, hb0⟩
                      clear HC
                      have hb := hb0
                      clear hb0
                      have h := HA.out.below hb; clear HA; have HA := Lib.hid h; clear h
                      have h := HB.out.below hb; clear HB; have HB := Lib.hid h; clear h
                      have h := HNB.out.below hb; clear HNB; have HNB := Lib.hid h; clear h
                      have h := HBK.out.below hb; clear HBK; have HBK := Lib.hid h; clear h
                      have h := Hx.out.below hb; clear Hx; have Hx := Lib.hid h; clear h
                      have h := Hy.out.below hb; clear Hy; have Hy := Lib.hid h; clear h
                      have h := Hp.out.below hb; clear Hp; have Hp := Lib.hid h; clear h
                      have h := Hq.out.below hb; clear Hq; have Hq := Lib.hid h; clear h
                      have h := Hs.out.below hb; clear Hs; have Hs := Lib.hid h; clear h
                      have h := Hb.out.trans (hb.mono Hb.out.size); clear Hb hb; have Hb := Lib.hid h; clear h
                      dsimp only
                      go_wp2_with fail
                      go_ret
                      exact ⟨rfl, Hb.out⟩
                · have z4 : (((n.k : Nat) : Int) == 4) = false := by simp; omega
                  by_cases k6 : n.k = 6
                  · have z6 : (((n.k : Nat) : Int) == 6) = true := by simp; omega
                    have HWT := Lib.hid (show waitsB n.k = true from decide_eq_true (.inr k6))
                    obtain ⟨X, hX⟩ : ∃ X, runR n [l, m] = X := ⟨_, rfl⟩
                    obtain ⟨P, hP⟩ : ∃ P, runR n [l.take k, m] = P := ⟨_, rfl⟩
                    obtain ⟨Q, hQ⟩ : ∃ Q, runR n [l.drop k, []] = Q := ⟨_, rfl⟩
                    obtain ⟨er, her⟩ : ∃ er, errR n 2 = er := ⟨_, rfl⟩
                    have hY : runR n [lb, m] = X := by rw [← hX]; exact run_perm2 HLB.out
                    have htl : (l.take k).length ≤ 60 := by rw [List.length_take]; omega
                    have hdl : (l.drop k).length ≤ 60 := by rw [List.length_drop]; omega
                    have hlen : ∀ {a b : List Rd}, a.length ≤ 60 → b.length ≤ 60 → (runR n [a, b]).length ≤ 3720 := fun {a b} h1 h2 => by
                      have h3 := run_len2 (n := n) (a := a) (b := b)
                      have h4 : a.length * b.length ≤ 60 * 60 := Nat.mul_le_mul h1 h2
                      omega
                    have hXl : X.length ≤ 3720 := by rw [← hX]; exact hlen hl hm
                    have hPl : P.length ≤ 3720 := by rw [← hP]; exact hlen htl hm
                    have hQl : Q.length ≤ 3720 := by rw [← hQ]; exact hlen hdl (by simp)
                    have HR1 := Lib.hid (run_o2 hn NA nm nc HW.out HV.out hl hm X er hX her)
                    have HR2 := Lib.hid (run_o2 hn NA nm nc (fun r hr => HW.out r (HLB.out.mem_iff.1 hr)) HV.out (by rw [HLB.out.length_eq]; exact hl) hm X er hY her)
                    have HR3 := Lib.hid (run_o2 hn NA nm nc (fun r hr => HW.out r (List.mem_of_mem_take hr)) HV.out htl hm P er hP her)
                    have HR4 := Lib.hid (run_o2 hn NA nm nc (fun r hr => HW.out r (List.mem_of_mem_drop hr)) (fun r hr => by simp at hr) hdl (by simp) Q er hQ her)
                    have hl5 : lb.length ≤ 60 := by rw [HLB.out.length_eq]; exact hl
                    clear k1 k4 k6 hX hP hQ hY her htl hdl hlen HW HV hn hcut
                    have hcs := cells5 HNB.out
                    obtain ⟨n0, n1, n2, n3, n4⟩ := hcs
                    have hc := HR1.out _ _ (LitV.made w2 [.slice A l.length c, .slice B m.length d] [l, m] ⟨HA.out, HB.out, trivial⟩ #[.slice A l.length c, .slice B m.length d] rfl 2 rfl)
                    have HC := Lib.hid hc; clear hc
                    go_wp2_with fail
                    refine HC.out.mono ?_; rintro e w31 ⟨⟨v, rfl, hr⟩, hb0⟩
                    clear HC n0 n1 n2 n3 n4
                    have hb : Below w2.heap.size w2 w31 := ((Below.refl _ w2).alloc (Nat.le_refl _) _).trans (hb0.mono (by simp))
                    clear hb0
                    have h := HA.out.below hb; clear HA; have HA := Lib.hid h; clear h
                    have h := HB.out.below hb; clear HB; have HB := Lib.hid h; clear h
                    have h := HNB.out.below hb; clear HNB; have HNB := Lib.hid h; clear h
                    have h := HBK.out.below hb; clear HBK; have HBK := Lib.hid h; clear h
                    have h := HBN.out.trans (hb.mono HBN.out.size); clear HBN hb; have HBN := Lib.hid h; clear h
                    obtain ⟨Ax, cx, rfl, zx⟩ := hr
                    have Hx := Lib.hid (show RowV w31 (.slice Ax (X : List Rd).length cx) X from ⟨Ax, cx, rfl, zx⟩); clear zx
                    dsimp only
                    have hcs := cells5 HNB.out
                    obtain ⟨n0, n1, n2, n3, n4⟩ := hcs
                    have hc := HR2.out _ _ (LitV.made w31 [.slice Ar lb.length cr, .slice B m.length d] [lb, m] ⟨HBK.out, HB.out, trivial⟩ #[.slice Ar lb.length cr, .slice B m.length d] rfl 2 rfl)
                    have HC := Lib.hid hc; clear hc
                    go_wp2_with fail
                    refine HC.out.mono ?_; rintro e w32 ⟨⟨v, rfl, hr⟩, hb0⟩
                    clear HC n0 n1 n2 n3 n4
                    have hb : Below w31.heap.size w31 w32 := ((Below.refl _ w31).alloc (Nat.le_refl _) _).trans (hb0.mono (by simp))
                    clear hb0
                    have h := HA.out.below hb; clear HA; have HA := Lib.hid h; clear h
                    have h := HB.out.below hb; clear HB; have HB := Lib.hid h; clear h
                    have h := HNB.out.below hb; clear HNB; have HNB := Lib.hid h; clear h
                    have h := HBK.out.below hb; clear HBK; have HBK := Lib.hid h; clear h
                    have h := Hx.out.below hb; clear Hx; have Hx := Lib.hid h; clear h
                    have h := HBN.out.trans (hb.mono HBN.out.size); clear HBN hb; have HBN := Lib.hid h; clear h
                    obtain ⟨Ay, cy, rfl, zy⟩ := hr
                    have Hy := Lib.hid (show RowV w32 (.slice Ay (X : List Rd).length cy) X from ⟨Ay, cy, rfl, zy⟩); clear zy
                    dsimp only
                    obtain ⟨vh, hsh, hrh⟩ := slice_hi HA.out hkl
                    obtain ⟨vl, hsl, hrl⟩ := slice_lo HA.out hkl
                    have HSH := Lib.hid hsh; have HRH := Lib.hid hrh; have HSL := Lib.hid hsl; have HRL := Lib.hid hrl
                    clear hsh hrh hsl hrl
                    have hld := NB.load HNB.out
                    have HLD := Lib.hid hld; clear hld
                    go_upto_region 23 with fail
                    have tbk := tbO23_keep A B NA c d k nm nc n l m P Q er vh vl
                    refine Free.wp_key (by kernel_rfl) (by kernel_rfl) (FT _ (tbO23 A B NA c d k nm nc n l m P Q er vh vl)) (vtO23 A B NA c d k nm nc n l m P Q er vh vl) (fun vs => FT.start (tbO23_end A B NA c d k nm nc n l m P Q er vh vl)) ?_ ?_
                    · intro i o hi b vs a wa hold hpre hbi hF
                      match i with
                      | 0 =>
                        cases hi
                        have h0 : a.eval (.tmp 4) = .pointer (some ⟨w.heap.size, 0, none⟩) := (hold 4 (by decide)).trans rfl
                        exact Free.c_all rfl (Free.g_load _ _ rfl h0 (HLD.out wa hF.1) ⟨rfl, hF.step tbk (Below.refl _ _) trivial⟩)
                      | 1 =>
                        cases hi
                        have h0 : a.eval (.tmp 1) = .slice A l.length c := (hold 1 (by decide)).trans rfl
                        exact Free.c_all rfl (Free.g_move _ rfl ⟨h0, hF.step tbk (Below.refl _ _) trivial⟩)
                      | 2 =>
                        cases hi
                        have h0 : a.eval (.tmp 11) = .int .i64 (k : Nat) := (hold 11 (by decide)).trans rfl
                        exact Free.c_all rfl (Free.g_move _ rfl ⟨h0, hF.step tbk (Below.refl _ _) trivial⟩)
                      | 3 =>
                        cases hi
                        have h1 : a.eval (.tmp 109) = .slice A l.length c := (hpre 1 _ _ (by kernel_rfl) rfl rfl).2.2
                        have h2 : a.eval (.tmp 110) = .int .i64 (k : Nat) := (hpre 2 _ _ (by kernel_rfl) rfl rfl).2.2
                        exact Free.c_all rfl (m_slice _ _ _ _ _ _ _ _ _ rfl h1 rfl (by show some (a.eval (.tmp 110)) = _; rw [h2]) rfl (HSH.out wa) ⟨rfl, hF.step tbk (Below.refl _ _) trivial⟩)
                      | 4 =>
                        cases hi
                        have h0 : a.eval (.tmp 2) = .slice B m.length d := (hold 2 (by decide)).trans rfl
                        exact Free.c_all rfl (Free.g_move _ rfl ⟨h0, hF.step tbk (Below.refl _ _) trivial⟩)
                      | 5 =>
                        cases hi
                        have e0 : a.eval (.tmp 111) = vh := (hpre 3 _ _ (by kernel_rfl) rfl rfl).2.2
                        have r0 := (HRH.out).below hF.1
                        have e1 : a.eval (.tmp 112) = .slice B m.length d := (hpre 4 _ _ (by kernel_rfl) rfl rfl).2.2
                        have r1 := (HB.out).below hF.1
                        obtain ⟨A0, c0, q0, z0⟩ := r0
                        obtain ⟨A1, c1, q1, z1⟩ := r1
                        have f0 := e0.trans q0
                        have f1 := e1.trans q1
                        exact Free.c_all rfl (Vr.m_lit _ _ _ [(0, .slice A0 ((l.take k) : List Rd).length c0), (1, .slice A1 (m : List Rd).length c1)] rfl (by show [(0, a.eval (.tmp 111)), (1, a.eval (.tmp 112))] = _; rw [f0, f1]) (build_l2 wa A0 A1 _ c0 _ c1) ⟨trivial, hF.step tbk ((Below.refl _ _).alloc (Nat.le_refl _) _) (LitV.made wa [.slice A0 ((l.take k) : List Rd).length c0, .slice A1 (m : List Rd).length c1] [(l.take k), m] ⟨⟨A0, c0, rfl, z0⟩, ⟨A1, c1, rfl, z1⟩, trivial⟩ _ rfl _ rfl)⟩)
                      | 6 =>
                        cases hi
                        have h0 : a.eval (.tmp 108) = .agg #[.int .u8 (n.k : Nat), .int .u8 (n.a : Nat), .int .i64 n.b, .int .i64 n.d, .slice NA nm nc] := (hpre 0 _ _ (by kernel_rfl) rfl rfl).2.2
                        have p1 := hpre 5 _ _ (by kernel_rfl) rfl rfl
                        have e1 : a.eval (.tmp 113) = vs 5 := p1.2.1
                        have r1 := hF.2 5 p1.1
                        change LitV wa (vs 5) [(l.take k), m] at r1
                        refine Free.c_all rfl (Free.g_call _ _ rfl Try.func14 (by kernel_rfl) rfl [.agg #[.int .u8 (n.k : Nat), .int .u8 (n.a : Nat), .int .i64 n.b, .int .i64 n.d, .slice NA nm nc], vs 5] (by show [a.eval (.tmp 108), a.eval (.tmp 113)] = _; rw [h0, e1]) ?_)
                        exact (HR3.out _ _ r1).mono fun e w2 ⟨⟨v9, he, hr9⟩, hb9⟩ => ⟨_, he, trivial, hF.step tbk hb9 ⟨v9, rfl, hr9⟩⟩
                      | 7 =>
                        cases hi
                        have p0 := hpre 6 _ _ (by kernel_rfl) rfl rfl
                        have e0 : a.eval (.tmp 114) = vs 6 := p0.2.1
                        have r0 := hF.2 6 p0.1
                        exact Free.c_all rfl (Free.g_move _ rfl ⟨trivial, hF.step tbk (Below.refl _ _) (by rw [e0]; exact r0)⟩)
                      | 8 =>
                        cases hi
                        have p0 := hpre 7 _ _ (by kernel_rfl) rfl rfl
                        have e0 : a.eval (.tmp 107) = vs 7 := p0.2.1
                        obtain ⟨v9, e9, r9⟩ := hF.2 7 p0.1
                        exact Free.c_all rfl (m_extract0 _ rfl (e0.trans e9) ⟨trivial, hF.step tbk (Below.refl _ _) r9⟩)
                      | 9 =>
                        cases hi
                        have p0 := hpre 7 _ _ (by kernel_rfl) rfl rfl
                        have e0 : a.eval (.tmp 107) = vs 7 := p0.2.1
                        obtain ⟨v9, e9, r9⟩ := hF.2 7 p0.1
                        exact Free.c_all rfl (m_extract1 _ rfl (e0.trans e9) ⟨rfl, hF.step tbk (Below.refl _ _) trivial⟩)
                      | 10 =>
                        cases hi
                        have p0 := hpre 8 _ _ (by kernel_rfl) rfl rfl
                        have e0 : a.eval (.tmp 115) = vs 8 := p0.2.1
                        have r0 := hF.2 8 p0.1
                        exact Free.c_all rfl (Free.g_assign _ rfl ⟨trivial, hF.step tbk (Below.refl _ _) (by rw [e0]; exact r0)⟩)
                      | _ + 11 => cases hi
                    · intro vs we hv hF
                      have k10 := hF.2 10 rfl
                      change RowV we (vs 10) P at k10
                      have HWE := Lib.hid hF.1; clear hF hv tbk
                      simp only [Free.puts, Nat.reduceAdd]
                      generalize vs 0 = y0 at *
                      generalize vs 1 = y1 at *
                      generalize vs 2 = y2 at *
                      generalize vs 3 = y3 at *
                      generalize vs 4 = y4 at *
                      generalize vs 5 = y5 at *
                      generalize vs 6 = y6 at *
                      generalize vs 7 = y7 at *
                      generalize vs 8 = y8 at *
                      generalize vs 9 = y9 at *
                      generalize vs 10 = y10 at *
                      obtain ⟨Ap, cp, rfl, zp⟩ := k10
                      have Hp := Lib.hid (show RowV we (.slice Ap (P : List Rd).length cp) P from ⟨Ap, cp, rfl, zp⟩); clear zp
                      go_simp
                      have h := HA.out.below HWE.out; clear HA; have HA := Lib.hid h; clear h
                      have h := HB.out.below HWE.out; clear HB; have HB := Lib.hid h; clear h
                      have h := HNB.out.below HWE.out; clear HNB; have HNB := Lib.hid h; clear h
                      have h := HBK.out.below HWE.out; clear HBK; have HBK := Lib.hid h; clear h
                      have h := Hx.out.below HWE.out; clear Hx; have Hx := Lib.hid h; clear h
                      have h := Hy.out.below HWE.out; clear Hy; have Hy := Lib.hid h; clear h
                      have h := HRH.out.below HWE.out; clear HRH; have HRH := Lib.hid h; clear h
                      have h := HRL.out.below HWE.out; clear HRL; have HRL := Lib.hid h; clear h
                      have h := HBN.out.trans (HWE.out.mono HBN.out.size); clear HBN HWE; have HBN := Lib.hid h; clear h
                      clear HLD
                      have hld := NB.load HNB.out
                      have HLD := Lib.hid hld; clear hld
                      go_upto_region 24 with fail
                      have tbk := tbO24_keep A B NA c d k nm nc n l m P Q er vh vl
                      refine Free.wp_key (by kernel_rfl) (by kernel_rfl) (FT _ (tbO24 A B NA c d k nm nc n l m P Q er vh vl)) (vtO24 A B NA c d k nm nc n l m P Q er vh vl) (fun vs => FT.start (tbO24_end A B NA c d k nm nc n l m P Q er vh vl)) ?_ ?_
                      · intro i o hi b vs a wa hold hpre hbi hF
                        match i with
                        | 0 =>
                          cases hi
                          have h0 : a.eval (.tmp 4) = .pointer (some ⟨w.heap.size, 0, none⟩) := (hold 4 (by decide)).trans rfl
                          exact Free.c_all rfl (Free.g_load _ _ rfl h0 (HLD.out wa hF.1) ⟨rfl, hF.step tbk (Below.refl _ _) trivial⟩)
                        | 1 =>
                          cases hi
                          have h0 : a.eval (.tmp 1) = .slice A l.length c := (hold 1 (by decide)).trans rfl
                          exact Free.c_all rfl (Free.g_move _ rfl ⟨h0, hF.step tbk (Below.refl _ _) trivial⟩)
                        | 2 =>
                          cases hi
                          have h0 : a.eval (.tmp 11) = .int .i64 (k : Nat) := (hold 11 (by decide)).trans rfl
                          exact Free.c_all rfl (Free.g_move _ rfl ⟨h0, hF.step tbk (Below.refl _ _) trivial⟩)
                        | 3 =>
                          cases hi
                          have h1 : a.eval (.tmp 119) = .slice A l.length c := (hpre 1 _ _ (by kernel_rfl) rfl rfl).2.2
                          have h2 : a.eval (.tmp 120) = .int .i64 (k : Nat) := (hpre 2 _ _ (by kernel_rfl) rfl rfl).2.2
                          exact Free.c_all rfl (m_slice _ _ _ _ _ _ _ _ _ rfl h1 (by show some (a.eval (.tmp 120)) = _; rw [h2]) rfl rfl (HSL.out wa) ⟨rfl, hF.step tbk (Below.refl _ _) trivial⟩)
                        | 4 =>
                          cases hi
                          have e0 : a.eval (.tmp 121) = vl := (hpre 3 _ _ (by kernel_rfl) rfl rfl).2.2
                          have r0 := (HRL.out).below hF.1
                          have r1 := RowV.nil wa
                          obtain ⟨A0, c0, q0, z0⟩ := r0
                          obtain ⟨A1, c1, q1, z1⟩ := r1
                          have f0 := e0.trans q0
                          exact Free.c_all rfl (Vr.m_lit _ _ _ [(0, .slice A0 ((l.drop k) : List Rd).length c0), (1, .slice A1 ([] : List Rd).length c1)] rfl (by show [(0, a.eval (.tmp 121)), (1, a.eval (.const (.slice none 0 0)))] = _; rw [f0, (show a.eval (.const (.slice none 0 0)) = .slice A1 (([] : List Rd)).length c1 from q1)]) (build_l2 wa A0 A1 _ c0 _ c1) ⟨trivial, hF.step tbk ((Below.refl _ _).alloc (Nat.le_refl _) _) (LitV.made wa [.slice A0 ((l.drop k) : List Rd).length c0, .slice A1 ([] : List Rd).length c1] [(l.drop k), []] ⟨⟨A0, c0, rfl, z0⟩, ⟨A1, c1, rfl, z1⟩, trivial⟩ _ rfl _ rfl)⟩)
                        | 5 =>
                          cases hi
                          have h0 : a.eval (.tmp 118) = .agg #[.int .u8 (n.k : Nat), .int .u8 (n.a : Nat), .int .i64 n.b, .int .i64 n.d, .slice NA nm nc] := (hpre 0 _ _ (by kernel_rfl) rfl rfl).2.2
                          have p1 := hpre 4 _ _ (by kernel_rfl) rfl rfl
                          have e1 : a.eval (.tmp 122) = vs 4 := p1.2.1
                          have r1 := hF.2 4 p1.1
                          change LitV wa (vs 4) [(l.drop k), []] at r1
                          refine Free.c_all rfl (Free.g_call _ _ rfl Try.func14 (by kernel_rfl) rfl [.agg #[.int .u8 (n.k : Nat), .int .u8 (n.a : Nat), .int .i64 n.b, .int .i64 n.d, .slice NA nm nc], vs 4] (by show [a.eval (.tmp 118), a.eval (.tmp 122)] = _; rw [h0, e1]) ?_)
                          exact (HR4.out _ _ r1).mono fun e w2 ⟨⟨v9, he, hr9⟩, hb9⟩ => ⟨_, he, trivial, hF.step tbk hb9 ⟨v9, rfl, hr9⟩⟩
                        | 6 =>
                          cases hi
                          have p0 := hpre 5 _ _ (by kernel_rfl) rfl rfl
                          have e0 : a.eval (.tmp 123) = vs 5 := p0.2.1
                          have r0 := hF.2 5 p0.1
                          exact Free.c_all rfl (Free.g_move _ rfl ⟨trivial, hF.step tbk (Below.refl _ _) (by rw [e0]; exact r0)⟩)
                        | 7 =>
                          cases hi
                          have p0 := hpre 6 _ _ (by kernel_rfl) rfl rfl
                          have e0 : a.eval (.tmp 117) = vs 6 := p0.2.1
                          obtain ⟨v9, e9, r9⟩ := hF.2 6 p0.1
                          exact Free.c_all rfl (m_extract0 _ rfl (e0.trans e9) ⟨trivial, hF.step tbk (Below.refl _ _) r9⟩)
                        | 8 =>
                          cases hi
                          have p0 := hpre 6 _ _ (by kernel_rfl) rfl rfl
                          have e0 : a.eval (.tmp 117) = vs 6 := p0.2.1
                          obtain ⟨v9, e9, r9⟩ := hF.2 6 p0.1
                          exact Free.c_all rfl (m_extract1 _ rfl (e0.trans e9) ⟨rfl, hF.step tbk (Below.refl _ _) trivial⟩)
                        | 9 =>
                          cases hi
                          have p0 := hpre 7 _ _ (by kernel_rfl) rfl rfl
                          have e0 : a.eval (.tmp 124) = vs 7 := p0.2.1
                          have r0 := hF.2 7 p0.1
                          exact Free.c_all rfl (Free.g_assign _ rfl ⟨trivial, hF.step tbk (Below.refl _ _) (by rw [e0]; exact r0)⟩)
                        | _ + 10 => cases hi
                      · intro vs wf hv hF
                        have k9 := hF.2 9 rfl
                        change RowV wf (vs 9) Q at k9
                        have HWE := Lib.hid hF.1; clear hF hv tbk
                        simp only [Free.puts, Nat.reduceAdd]
                        generalize vs 0 = y0 at *
                        generalize vs 1 = y1 at *
                        generalize vs 2 = y2 at *
                        generalize vs 3 = y3 at *
                        generalize vs 4 = y4 at *
                        generalize vs 5 = y5 at *
                        generalize vs 6 = y6 at *
                        generalize vs 7 = y7 at *
                        generalize vs 8 = y8 at *
                        generalize vs 9 = y9 at *
                        obtain ⟨Aq, cq, rfl, zq⟩ := k9
                        have Hq := Lib.hid (show RowV wf (.slice Aq (Q : List Rd).length cq) Q from ⟨Aq, cq, rfl, zq⟩); clear zq
                        go_simp
                        have h := HA.out.below HWE.out; clear HA; have HA := Lib.hid h; clear h
                        have h := HB.out.below HWE.out; clear HB; have HB := Lib.hid h; clear h
                        have h := HNB.out.below HWE.out; clear HNB; have HNB := Lib.hid h; clear h
                        have h := HBK.out.below HWE.out; clear HBK; have HBK := Lib.hid h; clear h
                        have h := Hx.out.below HWE.out; clear Hx; have Hx := Lib.hid h; clear h
                        have h := Hy.out.below HWE.out; clear Hy; have Hy := Lib.hid h; clear h
                        have h := HRH.out.below HWE.out; clear HRH; have HRH := Lib.hid h; clear h
                        have h := HRL.out.below HWE.out; clear HRL; have HRL := Lib.hid h; clear h
                        have h := Hp.out.below HWE.out; clear Hp; have Hp := Lib.hid h; clear h
                        have h := HBN.out.trans (HWE.out.mono HBN.out.size); clear HBN HWE; have HBN := Lib.hid h; clear h
                        clear HRH HRL HSH HSL HLD HR1 HR2 HR3 HR4
                        have h := HBN.out; clear HBN; have Hb := Lib.hid h; clear h
                        have hc := alike_v Hx.out Hy.out (by omega) (by omega)
                        rw [sameR_self] at hc
                        have HC := Lib.hid hc; clear hc
                        go_wp2_with fail
                        refine HC.out.mono ?_; rintro e w50 ⟨rfl, hb0⟩
                        clear HC
                        have hb := hb0
                        clear hb0
                        have h := HA.out.below hb; clear HA; have HA := Lib.hid h; clear h
                        have h := HB.out.below hb; clear HB; have HB := Lib.hid h; clear h
                        have h := HNB.out.below hb; clear HNB; have HNB := Lib.hid h; clear h
                        have h := HBK.out.below hb; clear HBK; have HBK := Lib.hid h; clear h
                        have h := Hx.out.below hb; clear Hx; have Hx := Lib.hid h; clear h
                        have h := Hy.out.below hb; clear Hy; have Hy := Lib.hid h; clear h
                        have h := Hp.out.below hb; clear Hp; have Hp := Lib.hid h; clear h
                        have h := Hq.out.below hb; clear Hq; have Hq := Lib.hid h; clear h
                        have h := Hb.out.trans (hb.mono Hb.out.size); clear Hb hb; have Hb := Lib.hid h; clear h
                        dsimp only
                        have hcs := cells5 HNB.out
                        obtain ⟨n0, n1, n2, n3, n4⟩ := hcs
                        have hc := waits_any n.k w50
                        rw [HWT.out] at hc
                        have HC := Lib.hid hc; clear hc
                        go_wp2_with fail
                        refine HC.out.mono ?_; rintro e w0 ⟨rfl, rfl⟩
                        clear HC
                        dsimp only
                        have hc := works_any w50
                        have HC := Lib.hid hc; clear hc
                        go_wp2_with fail
                        refine HC.out.mono ?_; rintro e w52 ⟨rfl, hb0⟩
                        clear HC
                        have hb := hb0
                        clear hb0
                        have h := HA.out.below hb; clear HA; have HA := Lib.hid h; clear h
                        have h := HB.out.below hb; clear HB; have HB := Lib.hid h; clear h
                        have h := HNB.out.below hb; clear HNB; have HNB := Lib.hid h; clear h
                        have h := HBK.out.below hb; clear HBK; have HBK := Lib.hid h; clear h
                        have h := Hx.out.below hb; clear Hx; have Hx := Lib.hid h; clear h
                        have h := Hy.out.below hb; clear Hy; have Hy := Lib.hid h; clear h
                        have h := Hp.out.below hb; clear Hp; have Hp := Lib.hid h; clear h
                        have h := Hq.out.below hb; clear Hq; have Hq := Lib.hid h; clear h
                        have h := Hb.out.trans (hb.mono Hb.out.size); clear Hb hb; have Hb := Lib.hid h; clear h
                        dsimp only
                        go_wp2_with fail
                        go_ret
                        exact ⟨rfl, Hb.out⟩
                  · have z6 : (((n.k : Nat) : Int) == 6) = false := by simp; omega
                    obtain ⟨X, hX⟩ : ∃ X, runR n [l] = X := ⟨_, rfl⟩
                    obtain ⟨P, hP⟩ : ∃ P, runR n [l.take k] = P := ⟨_, rfl⟩
                    obtain ⟨Q, hQ⟩ : ∃ Q, runR n [l.drop k] = Q := ⟨_, rfl⟩
                    obtain ⟨er, her⟩ : ∃ er, errR n 1 = er := ⟨_, rfl⟩
                    have hY : runR n [lb] = X := by rw [← hX]; exact run_perm1 HLB.out
                    have htl : (l.take k).length ≤ 60 := by rw [List.length_take]; omega
                    have hdl : (l.drop k).length ≤ 60 := by rw [List.length_drop]; omega
                    have hXl : X.length ≤ 60 := by rw [← hX]; exact Nat.le_trans run_len1 hl
                    have hPl : P.length ≤ 60 := by rw [← hP]; exact Nat.le_trans run_len1 htl
                    have hQl : Q.length ≤ 60 := by rw [← hQ]; exact Nat.le_trans run_len1 hdl
                    have HR1 := Lib.hid (run_o1 hn NA nm nc HW.out hl X er hX her)
                    have HR2 := Lib.hid (run_o1 hn NA nm nc (fun r hr => HW.out r (HLB.out.mem_iff.1 hr)) (by rw [HLB.out.length_eq]; exact hl) X er hY her)
                    have HR3 := Lib.hid (run_o1 hn NA nm nc (fun r hr => HW.out r (List.mem_of_mem_take hr)) htl P er hP her)
                    have HR4 := Lib.hid (run_o1 hn NA nm nc (fun r hr => HW.out r (List.mem_of_mem_drop hr)) hdl Q er hQ her)
                    have hl5 : lb.length ≤ 60 := by rw [HLB.out.length_eq]; exact hl
                    by_cases k5 : n.k = 5
                    · have HWT := Lib.hid (show waitsB n.k = true from decide_eq_true (.inl k5))
                      clear k1 k4 k5 k6 hX hP hQ hY her htl hdl HW HV hn hcut
                      have hcs := cells5 HNB.out
                      obtain ⟨n0, n1, n2, n3, n4⟩ := hcs
                      have hc := HR1.out _ _ (LitV.made w2 [.slice A l.length c] [l] ⟨HA.out, trivial⟩ #[.slice A l.length c] rfl 1 rfl)
                      have HC := Lib.hid hc; clear hc
                      go_wp2_with fail
                      refine HC.out.mono ?_; rintro e w31 ⟨⟨v, rfl, hr⟩, hb0⟩
                      clear HC n0 n1 n2 n3 n4
                      have hb : Below w2.heap.size w2 w31 := ((Below.refl _ w2).alloc (Nat.le_refl _) _).trans (hb0.mono (by simp))
                      clear hb0
                      have h := HA.out.below hb; clear HA; have HA := Lib.hid h; clear h
                      have h := HB.out.below hb; clear HB; have HB := Lib.hid h; clear h
                      have h := HNB.out.below hb; clear HNB; have HNB := Lib.hid h; clear h
                      have h := HBK.out.below hb; clear HBK; have HBK := Lib.hid h; clear h
                      have h := HBN.out.trans (hb.mono HBN.out.size); clear HBN hb; have HBN := Lib.hid h; clear h
                      obtain ⟨Ax, cx, rfl, zx⟩ := hr
                      have Hx := Lib.hid (show RowV w31 (.slice Ax (X : List Rd).length cx) X from ⟨Ax, cx, rfl, zx⟩); clear zx
                      dsimp only
                      have hcs := cells5 HNB.out
                      obtain ⟨n0, n1, n2, n3, n4⟩ := hcs
                      have hc := HR2.out _ _ (LitV.made w31 [.slice Ar lb.length cr] [lb] ⟨HBK.out, trivial⟩ #[.slice Ar lb.length cr] rfl 1 rfl)
                      have HC := Lib.hid hc; clear hc
                      go_wp2_with fail
                      refine HC.out.mono ?_; rintro e w32 ⟨⟨v, rfl, hr⟩, hb0⟩
                      clear HC n0 n1 n2 n3 n4
                      have hb : Below w31.heap.size w31 w32 := ((Below.refl _ w31).alloc (Nat.le_refl _) _).trans (hb0.mono (by simp))
                      clear hb0
                      have h := HA.out.below hb; clear HA; have HA := Lib.hid h; clear h
                      have h := HB.out.below hb; clear HB; have HB := Lib.hid h; clear h
                      have h := HNB.out.below hb; clear HNB; have HNB := Lib.hid h; clear h
                      have h := HBK.out.below hb; clear HBK; have HBK := Lib.hid h; clear h
                      have h := Hx.out.below hb; clear Hx; have Hx := Lib.hid h; clear h
                      have h := HBN.out.trans (hb.mono HBN.out.size); clear HBN hb; have HBN := Lib.hid h; clear h
                      obtain ⟨Ay, cy, rfl, zy⟩ := hr
                      have Hy := Lib.hid (show RowV w32 (.slice Ay (X : List Rd).length cy) X from ⟨Ay, cy, rfl, zy⟩); clear zy
                      dsimp only
                      obtain ⟨vh, hsh, hrh⟩ := slice_hi HA.out hkl
                      obtain ⟨vl, hsl, hrl⟩ := slice_lo HA.out hkl
                      have HSH := Lib.hid hsh; have HRH := Lib.hid hrh; have HSL := Lib.hid hsl; have HRL := Lib.hid hrl
                      clear hsh hrh hsl hrl
                      have hld := NB.load HNB.out
                      have HLD := Lib.hid hld; clear hld
                      go_upto_region 15 with fail
                      have tbk := tbO15_keep A B NA c d k nm nc n l m P Q er vh vl
                      refine Free.wp_key (by kernel_rfl) (by kernel_rfl) (FT _ (tbO15 A B NA c d k nm nc n l m P Q er vh vl)) (vtO15 A B NA c d k nm nc n l m P Q er vh vl) (fun vs => FT.start (tbO15_end A B NA c d k nm nc n l m P Q er vh vl)) ?_ ?_
                      · intro i o hi b vs a wa hold hpre hbi hF
                        match i with
                        | 0 =>
                          cases hi
                          have h0 : a.eval (.tmp 4) = .pointer (some ⟨w.heap.size, 0, none⟩) := (hold 4 (by decide)).trans rfl
                          exact Free.c_all rfl (Free.g_load _ _ rfl h0 (HLD.out wa hF.1) ⟨rfl, hF.step tbk (Below.refl _ _) trivial⟩)
                        | 1 =>
                          cases hi
                          have h0 : a.eval (.tmp 1) = .slice A l.length c := (hold 1 (by decide)).trans rfl
                          exact Free.c_all rfl (Free.g_move _ rfl ⟨h0, hF.step tbk (Below.refl _ _) trivial⟩)
                        | 2 =>
                          cases hi
                          have h0 : a.eval (.tmp 11) = .int .i64 (k : Nat) := (hold 11 (by decide)).trans rfl
                          exact Free.c_all rfl (Free.g_move _ rfl ⟨h0, hF.step tbk (Below.refl _ _) trivial⟩)
                        | 3 =>
                          cases hi
                          have h1 : a.eval (.tmp 69) = .slice A l.length c := (hpre 1 _ _ (by kernel_rfl) rfl rfl).2.2
                          have h2 : a.eval (.tmp 70) = .int .i64 (k : Nat) := (hpre 2 _ _ (by kernel_rfl) rfl rfl).2.2
                          exact Free.c_all rfl (m_slice _ _ _ _ _ _ _ _ _ rfl h1 rfl (by show some (a.eval (.tmp 70)) = _; rw [h2]) rfl (HSH.out wa) ⟨rfl, hF.step tbk (Below.refl _ _) trivial⟩)
                        | 4 =>
                          cases hi
                          have e0 : a.eval (.tmp 71) = vh := (hpre 3 _ _ (by kernel_rfl) rfl rfl).2.2
                          have r0 := (HRH.out).below hF.1
                          obtain ⟨A0, c0, q0, z0⟩ := r0
                          have f0 := e0.trans q0
                          exact Free.c_all rfl (Vr.m_lit _ _ _ [(0, .slice A0 ((l.take k) : List Rd).length c0)] rfl (by show [(0, a.eval (.tmp 71))] = _; rw [f0]) (build_l1 wa A0 _ c0) ⟨trivial, hF.step tbk ((Below.refl _ _).alloc (Nat.le_refl _) _) (LitV.made wa [.slice A0 ((l.take k) : List Rd).length c0] [(l.take k)] ⟨⟨A0, c0, rfl, z0⟩, trivial⟩ _ rfl _ rfl)⟩)
                        | 5 =>
                          cases hi
                          have h0 : a.eval (.tmp 68) = .agg #[.int .u8 (n.k : Nat), .int .u8 (n.a : Nat), .int .i64 n.b, .int .i64 n.d, .slice NA nm nc] := (hpre 0 _ _ (by kernel_rfl) rfl rfl).2.2
                          have p1 := hpre 4 _ _ (by kernel_rfl) rfl rfl
                          have e1 : a.eval (.tmp 72) = vs 4 := p1.2.1
                          have r1 := hF.2 4 p1.1
                          change LitV wa (vs 4) [(l.take k)] at r1
                          refine Free.c_all rfl (Free.g_call _ _ rfl Try.func14 (by kernel_rfl) rfl [.agg #[.int .u8 (n.k : Nat), .int .u8 (n.a : Nat), .int .i64 n.b, .int .i64 n.d, .slice NA nm nc], vs 4] (by show [a.eval (.tmp 68), a.eval (.tmp 72)] = _; rw [h0, e1]) ?_)
                          exact (HR3.out _ _ r1).mono fun e w2 ⟨⟨v9, he, hr9⟩, hb9⟩ => ⟨_, he, trivial, hF.step tbk hb9 ⟨v9, rfl, hr9⟩⟩
                        | 6 =>
                          cases hi
                          have p0 := hpre 5 _ _ (by kernel_rfl) rfl rfl
                          have e0 : a.eval (.tmp 73) = vs 5 := p0.2.1
                          have r0 := hF.2 5 p0.1
                          exact Free.c_all rfl (Free.g_move _ rfl ⟨trivial, hF.step tbk (Below.refl _ _) (by rw [e0]; exact r0)⟩)
                        | 7 =>
                          cases hi
                          have p0 := hpre 6 _ _ (by kernel_rfl) rfl rfl
                          have e0 : a.eval (.tmp 67) = vs 6 := p0.2.1
                          obtain ⟨v9, e9, r9⟩ := hF.2 6 p0.1
                          exact Free.c_all rfl (m_extract0 _ rfl (e0.trans e9) ⟨trivial, hF.step tbk (Below.refl _ _) r9⟩)
                        | 8 =>
                          cases hi
                          have p0 := hpre 6 _ _ (by kernel_rfl) rfl rfl
                          have e0 : a.eval (.tmp 67) = vs 6 := p0.2.1
                          obtain ⟨v9, e9, r9⟩ := hF.2 6 p0.1
                          exact Free.c_all rfl (m_extract1 _ rfl (e0.trans e9) ⟨rfl, hF.step tbk (Below.refl _ _) trivial⟩)
                        | 9 =>
                          cases hi
                          have p0 := hpre 7 _ _ (by kernel_rfl) rfl rfl
                          have e0 : a.eval (.tmp 74) = vs 7 := p0.2.1
                          have r0 := hF.2 7 p0.1
                          exact Free.c_all rfl (Free.g_assign _ rfl ⟨trivial, hF.step tbk (Below.refl _ _) (by rw [e0]; exact r0)⟩)
                        | _ + 10 => cases hi
                      · intro vs we hv hF
                        have k9 := hF.2 9 rfl
                        change RowV we (vs 9) P at k9
                        have HWE := Lib.hid hF.1; clear hF hv tbk
                        simp only [Free.puts, Nat.reduceAdd]
                        generalize vs 0 = y0 at *
                        generalize vs 1 = y1 at *
                        generalize vs 2 = y2 at *
                        generalize vs 3 = y3 at *
                        generalize vs 4 = y4 at *
                        generalize vs 5 = y5 at *
                        generalize vs 6 = y6 at *
                        generalize vs 7 = y7 at *
                        generalize vs 8 = y8 at *
                        generalize vs 9 = y9 at *
                        obtain ⟨Ap, cp, rfl, zp⟩ := k9
                        have Hp := Lib.hid (show RowV we (.slice Ap (P : List Rd).length cp) P from ⟨Ap, cp, rfl, zp⟩); clear zp
                        go_simp
                        have h := HA.out.below HWE.out; clear HA; have HA := Lib.hid h; clear h
                        have h := HB.out.below HWE.out; clear HB; have HB := Lib.hid h; clear h
                        have h := HNB.out.below HWE.out; clear HNB; have HNB := Lib.hid h; clear h
                        have h := HBK.out.below HWE.out; clear HBK; have HBK := Lib.hid h; clear h
                        have h := Hx.out.below HWE.out; clear Hx; have Hx := Lib.hid h; clear h
                        have h := Hy.out.below HWE.out; clear Hy; have Hy := Lib.hid h; clear h
                        have h := HRH.out.below HWE.out; clear HRH; have HRH := Lib.hid h; clear h
                        have h := HRL.out.below HWE.out; clear HRL; have HRL := Lib.hid h; clear h
                        have h := HBN.out.trans (HWE.out.mono HBN.out.size); clear HBN HWE; have HBN := Lib.hid h; clear h
                        clear HLD
                        have hld := NB.load HNB.out
                        have HLD := Lib.hid hld; clear hld
                        go_upto_region 16 with fail
                        have tbk := tbO16_keep A B NA c d k nm nc n l m P Q er vh vl
                        refine Free.wp_key (by kernel_rfl) (by kernel_rfl) (FT _ (tbO16 A B NA c d k nm nc n l m P Q er vh vl)) (vtO16 A B NA c d k nm nc n l m P Q er vh vl) (fun vs => FT.start (tbO16_end A B NA c d k nm nc n l m P Q er vh vl)) ?_ ?_
                        · intro i o hi b vs a wa hold hpre hbi hF
                          match i with
                          | 0 =>
                            cases hi
                            have h0 : a.eval (.tmp 4) = .pointer (some ⟨w.heap.size, 0, none⟩) := (hold 4 (by decide)).trans rfl
                            exact Free.c_all rfl (Free.g_load _ _ rfl h0 (HLD.out wa hF.1) ⟨rfl, hF.step tbk (Below.refl _ _) trivial⟩)
                          | 1 =>
                            cases hi
                            have h0 : a.eval (.tmp 1) = .slice A l.length c := (hold 1 (by decide)).trans rfl
                            exact Free.c_all rfl (Free.g_move _ rfl ⟨h0, hF.step tbk (Below.refl _ _) trivial⟩)
                          | 2 =>
                            cases hi
                            have h0 : a.eval (.tmp 11) = .int .i64 (k : Nat) := (hold 11 (by decide)).trans rfl
                            exact Free.c_all rfl (Free.g_move _ rfl ⟨h0, hF.step tbk (Below.refl _ _) trivial⟩)
                          | 3 =>
                            cases hi
                            have h1 : a.eval (.tmp 78) = .slice A l.length c := (hpre 1 _ _ (by kernel_rfl) rfl rfl).2.2
                            have h2 : a.eval (.tmp 79) = .int .i64 (k : Nat) := (hpre 2 _ _ (by kernel_rfl) rfl rfl).2.2
                            exact Free.c_all rfl (m_slice _ _ _ _ _ _ _ _ _ rfl h1 (by show some (a.eval (.tmp 79)) = _; rw [h2]) rfl rfl (HSL.out wa) ⟨rfl, hF.step tbk (Below.refl _ _) trivial⟩)
                          | 4 =>
                            cases hi
                            have e0 : a.eval (.tmp 80) = vl := (hpre 3 _ _ (by kernel_rfl) rfl rfl).2.2
                            have r0 := (HRL.out).below hF.1
                            obtain ⟨A0, c0, q0, z0⟩ := r0
                            have f0 := e0.trans q0
                            exact Free.c_all rfl (Vr.m_lit _ _ _ [(0, .slice A0 ((l.drop k) : List Rd).length c0)] rfl (by show [(0, a.eval (.tmp 80))] = _; rw [f0]) (build_l1 wa A0 _ c0) ⟨trivial, hF.step tbk ((Below.refl _ _).alloc (Nat.le_refl _) _) (LitV.made wa [.slice A0 ((l.drop k) : List Rd).length c0] [(l.drop k)] ⟨⟨A0, c0, rfl, z0⟩, trivial⟩ _ rfl _ rfl)⟩)
                          | 5 =>
                            cases hi
                            have h0 : a.eval (.tmp 77) = .agg #[.int .u8 (n.k : Nat), .int .u8 (n.a : Nat), .int .i64 n.b, .int .i64 n.d, .slice NA nm nc] := (hpre 0 _ _ (by kernel_rfl) rfl rfl).2.2
                            have p1 := hpre 4 _ _ (by kernel_rfl) rfl rfl
                            have e1 : a.eval (.tmp 81) = vs 4 := p1.2.1
                            have r1 := hF.2 4 p1.1
                            change LitV wa (vs 4) [(l.drop k)] at r1
                            refine Free.c_all rfl (Free.g_call _ _ rfl Try.func14 (by kernel_rfl) rfl [.agg #[.int .u8 (n.k : Nat), .int .u8 (n.a : Nat), .int .i64 n.b, .int .i64 n.d, .slice NA nm nc], vs 4] (by show [a.eval (.tmp 77), a.eval (.tmp 81)] = _; rw [h0, e1]) ?_)
                            exact (HR4.out _ _ r1).mono fun e w2 ⟨⟨v9, he, hr9⟩, hb9⟩ => ⟨_, he, trivial, hF.step tbk hb9 ⟨v9, rfl, hr9⟩⟩
                          | 6 =>
                            cases hi
                            have p0 := hpre 5 _ _ (by kernel_rfl) rfl rfl
                            have e0 : a.eval (.tmp 82) = vs 5 := p0.2.1
                            have r0 := hF.2 5 p0.1
                            exact Free.c_all rfl (Free.g_move _ rfl ⟨trivial, hF.step tbk (Below.refl _ _) (by rw [e0]; exact r0)⟩)
                          | 7 =>
                            cases hi
                            have p0 := hpre 6 _ _ (by kernel_rfl) rfl rfl
                            have e0 : a.eval (.tmp 76) = vs 6 := p0.2.1
                            obtain ⟨v9, e9, r9⟩ := hF.2 6 p0.1
                            exact Free.c_all rfl (m_extract0 _ rfl (e0.trans e9) ⟨trivial, hF.step tbk (Below.refl _ _) r9⟩)
                          | 8 =>
                            cases hi
                            have p0 := hpre 6 _ _ (by kernel_rfl) rfl rfl
                            have e0 : a.eval (.tmp 76) = vs 6 := p0.2.1
                            obtain ⟨v9, e9, r9⟩ := hF.2 6 p0.1
                            exact Free.c_all rfl (m_extract1 _ rfl (e0.trans e9) ⟨rfl, hF.step tbk (Below.refl _ _) trivial⟩)
                          | 9 =>
                            cases hi
                            have p0 := hpre 7 _ _ (by kernel_rfl) rfl rfl
                            have e0 : a.eval (.tmp 83) = vs 7 := p0.2.1
                            have r0 := hF.2 7 p0.1
                            exact Free.c_all rfl (Free.g_assign _ rfl ⟨trivial, hF.step tbk (Below.refl _ _) (by rw [e0]; exact r0)⟩)
                          | _ + 10 => cases hi
                        · intro vs wf hv hF
                          have k9 := hF.2 9 rfl
                          change RowV wf (vs 9) Q at k9
                          have HWE := Lib.hid hF.1; clear hF hv tbk
                          simp only [Free.puts, Nat.reduceAdd]
                          generalize vs 0 = y0 at *
                          generalize vs 1 = y1 at *
                          generalize vs 2 = y2 at *
                          generalize vs 3 = y3 at *
                          generalize vs 4 = y4 at *
                          generalize vs 5 = y5 at *
                          generalize vs 6 = y6 at *
                          generalize vs 7 = y7 at *
                          generalize vs 8 = y8 at *
                          generalize vs 9 = y9 at *
                          obtain ⟨Aq, cq, rfl, zq⟩ := k9
                          have Hq := Lib.hid (show RowV wf (.slice Aq (Q : List Rd).length cq) Q from ⟨Aq, cq, rfl, zq⟩); clear zq
                          go_simp
                          have h := HA.out.below HWE.out; clear HA; have HA := Lib.hid h; clear h
                          have h := HB.out.below HWE.out; clear HB; have HB := Lib.hid h; clear h
                          have h := HNB.out.below HWE.out; clear HNB; have HNB := Lib.hid h; clear h
                          have h := HBK.out.below HWE.out; clear HBK; have HBK := Lib.hid h; clear h
                          have h := Hx.out.below HWE.out; clear Hx; have Hx := Lib.hid h; clear h
                          have h := Hy.out.below HWE.out; clear Hy; have Hy := Lib.hid h; clear h
                          have h := HRH.out.below HWE.out; clear HRH; have HRH := Lib.hid h; clear h
                          have h := HRL.out.below HWE.out; clear HRL; have HRL := Lib.hid h; clear h
                          have h := Hp.out.below HWE.out; clear Hp; have Hp := Lib.hid h; clear h
                          have h := HBN.out.trans (HWE.out.mono HBN.out.size); clear HBN HWE; have HBN := Lib.hid h; clear h
                          clear HRH HRL HSH HSL HLD HR1 HR2 HR3 HR4
                          have h := HBN.out; clear HBN; have Hb := Lib.hid h; clear h
                          have hc := alike_v Hx.out Hy.out (by omega) (by omega)
                          rw [sameR_self] at hc
                          have HC := Lib.hid hc; clear hc
                          go_wp2_with fail
                          refine HC.out.mono ?_; rintro e w50 ⟨rfl, hb0⟩
                          clear HC
                          have hb := hb0
                          clear hb0
                          have h := HA.out.below hb; clear HA; have HA := Lib.hid h; clear h
                          have h := HB.out.below hb; clear HB; have HB := Lib.hid h; clear h
                          have h := HNB.out.below hb; clear HNB; have HNB := Lib.hid h; clear h
                          have h := HBK.out.below hb; clear HBK; have HBK := Lib.hid h; clear h
                          have h := Hx.out.below hb; clear Hx; have Hx := Lib.hid h; clear h
                          have h := Hy.out.below hb; clear Hy; have Hy := Lib.hid h; clear h
                          have h := Hp.out.below hb; clear Hp; have Hp := Lib.hid h; clear h
                          have h := Hq.out.below hb; clear Hq; have Hq := Lib.hid h; clear h
                          have h := Hb.out.trans (hb.mono Hb.out.size); clear Hb hb; have Hb := Lib.hid h; clear h
                          dsimp only
                          have hcs := cells5 HNB.out
                          obtain ⟨n0, n1, n2, n3, n4⟩ := hcs
                          have hc := waits_any n.k w50
                          rw [HWT.out] at hc
                          have HC := Lib.hid hc; clear hc
                          go_wp2_with fail
                          refine HC.out.mono ?_; rintro e w0 ⟨rfl, rfl⟩
                          clear HC
                          dsimp only
                          have hc := works_any w50
                          have HC := Lib.hid hc; clear hc
                          go_wp2_with fail
                          refine HC.out.mono ?_; rintro e w52 ⟨rfl, hb0⟩
                          clear HC
                          have hb := hb0
                          clear hb0
                          have h := HA.out.below hb; clear HA; have HA := Lib.hid h; clear h
                          have h := HB.out.below hb; clear HB; have HB := Lib.hid h; clear h
                          have h := HNB.out.below hb; clear HNB; have HNB := Lib.hid h; clear h
                          have h := HBK.out.below hb; clear HBK; have HBK := Lib.hid h; clear h
                          have h := Hx.out.below hb; clear Hx; have Hx := Lib.hid h; clear h
                          have h := Hy.out.below hb; clear Hy; have Hy := Lib.hid h; clear h
                          have h := Hp.out.below hb; clear Hp; have Hp := Lib.hid h; clear h
                          have h := Hq.out.below hb; clear Hq; have Hq := Lib.hid h; clear h
                          have h := Hb.out.trans (hb.mono Hb.out.size); clear Hb hb; have Hb := Lib.hid h; clear h
                          dsimp only
                          go_wp2_with fail
                          go_ret
                          exact ⟨rfl, Hb.out⟩
                    · have HWT := Lib.hid (show waitsB n.k = false from decide_eq_false (by omega))
                      have h5 : n.k ≠ 5 := k5
                      have h6 : n.k ≠ 6 := k6
                      have hPQ := run_app1 (n := n) (x := l.take k) (y := l.drop k) h5 h6
                      rw [List.take_append_drop, hP, hQ, hX] at hPQ
                      have HADD := Lib.hid (fun (w : World) (v : Value) (h : LitV w v [P, Q]) => add_v h (by simp) (by simp; omega))
                      rw [hPQ] at HADD
                      clear hPQ
                      clear h5 h6 k1 k4 k5 k6 hX hP hQ hY her htl hdl HW HV hn hcut
                      have hcs := cells5 HNB.out
                      obtain ⟨n0, n1, n2, n3, n4⟩ := hcs
                      have hc := HR1.out _ _ (LitV.made w2 [.slice A l.length c] [l] ⟨HA.out, trivial⟩ #[.slice A l.length c] rfl 1 rfl)
                      have HC := Lib.hid hc; clear hc
                      go_wp2_with fail
                      refine HC.out.mono ?_; rintro e w31 ⟨⟨v, rfl, hr⟩, hb0⟩
                      clear HC n0 n1 n2 n3 n4
                      have hb : Below w2.heap.size w2 w31 := ((Below.refl _ w2).alloc (Nat.le_refl _) _).trans (hb0.mono (by simp))
                      clear hb0
                      have h := HA.out.below hb; clear HA; have HA := Lib.hid h; clear h
                      have h := HB.out.below hb; clear HB; have HB := Lib.hid h; clear h
                      have h := HNB.out.below hb; clear HNB; have HNB := Lib.hid h; clear h
                      have h := HBK.out.below hb; clear HBK; have HBK := Lib.hid h; clear h
                      have h := HBN.out.trans (hb.mono HBN.out.size); clear HBN hb; have HBN := Lib.hid h; clear h
                      obtain ⟨Ax, cx, rfl, zx⟩ := hr
                      have Hx := Lib.hid (show RowV w31 (.slice Ax (X : List Rd).length cx) X from ⟨Ax, cx, rfl, zx⟩); clear zx
                      dsimp only
                      have hcs := cells5 HNB.out
                      obtain ⟨n0, n1, n2, n3, n4⟩ := hcs
                      have hc := HR2.out _ _ (LitV.made w31 [.slice Ar lb.length cr] [lb] ⟨HBK.out, trivial⟩ #[.slice Ar lb.length cr] rfl 1 rfl)
                      have HC := Lib.hid hc; clear hc
                      go_wp2_with fail
                      refine HC.out.mono ?_; rintro e w32 ⟨⟨v, rfl, hr⟩, hb0⟩
                      clear HC n0 n1 n2 n3 n4
                      have hb : Below w31.heap.size w31 w32 := ((Below.refl _ w31).alloc (Nat.le_refl _) _).trans (hb0.mono (by simp))
                      clear hb0
                      have h := HA.out.below hb; clear HA; have HA := Lib.hid h; clear h
                      have h := HB.out.below hb; clear HB; have HB := Lib.hid h; clear h
                      have h := HNB.out.below hb; clear HNB; have HNB := Lib.hid h; clear h
                      have h := HBK.out.below hb; clear HBK; have HBK := Lib.hid h; clear h
                      have h := Hx.out.below hb; clear Hx; have Hx := Lib.hid h; clear h
                      have h := HBN.out.trans (hb.mono HBN.out.size); clear HBN hb; have HBN := Lib.hid h; clear h
                      obtain ⟨Ay, cy, rfl, zy⟩ := hr
                      have Hy := Lib.hid (show RowV w32 (.slice Ay (X : List Rd).length cy) X from ⟨Ay, cy, rfl, zy⟩); clear zy
                      dsimp only
                      obtain ⟨vh, hsh, hrh⟩ := slice_hi HA.out hkl
                      obtain ⟨vl, hsl, hrl⟩ := slice_lo HA.out hkl
                      have HSH := Lib.hid hsh; have HRH := Lib.hid hrh; have HSL := Lib.hid hsl; have HRL := Lib.hid hrl
                      clear hsh hrh hsl hrl
                      have hld := NB.load HNB.out
                      have HLD := Lib.hid hld; clear hld
                      go_upto_region 15 with fail
                      have tbk := tbO15_keep A B NA c d k nm nc n l m P Q er vh vl
                      refine Free.wp_key (by kernel_rfl) (by kernel_rfl) (FT _ (tbO15 A B NA c d k nm nc n l m P Q er vh vl)) (vtO15 A B NA c d k nm nc n l m P Q er vh vl) (fun vs => FT.start (tbO15_end A B NA c d k nm nc n l m P Q er vh vl)) ?_ ?_
                      · intro i o hi b vs a wa hold hpre hbi hF
                        match i with
                        | 0 =>
                          cases hi
                          have h0 : a.eval (.tmp 4) = .pointer (some ⟨w.heap.size, 0, none⟩) := (hold 4 (by decide)).trans rfl
                          exact Free.c_all rfl (Free.g_load _ _ rfl h0 (HLD.out wa hF.1) ⟨rfl, hF.step tbk (Below.refl _ _) trivial⟩)
                        | 1 =>
                          cases hi
                          have h0 : a.eval (.tmp 1) = .slice A l.length c := (hold 1 (by decide)).trans rfl
                          exact Free.c_all rfl (Free.g_move _ rfl ⟨h0, hF.step tbk (Below.refl _ _) trivial⟩)
                        | 2 =>
                          cases hi
                          have h0 : a.eval (.tmp 11) = .int .i64 (k : Nat) := (hold 11 (by decide)).trans rfl
                          exact Free.c_all rfl (Free.g_move _ rfl ⟨h0, hF.step tbk (Below.refl _ _) trivial⟩)
                        | 3 =>
                          cases hi
                          have h1 : a.eval (.tmp 69) = .slice A l.length c := (hpre 1 _ _ (by kernel_rfl) rfl rfl).2.2
                          have h2 : a.eval (.tmp 70) = .int .i64 (k : Nat) := (hpre 2 _ _ (by kernel_rfl) rfl rfl).2.2
                          exact Free.c_all rfl (m_slice _ _ _ _ _ _ _ _ _ rfl h1 rfl (by show some (a.eval (.tmp 70)) = _; rw [h2]) rfl (HSH.out wa) ⟨rfl, hF.step tbk (Below.refl _ _) trivial⟩)
                        | 4 =>
                          cases hi
                          have e0 : a.eval (.tmp 71) = vh := (hpre 3 _ _ (by kernel_rfl) rfl rfl).2.2
                          have r0 := (HRH.out).below hF.1
                          obtain ⟨A0, c0, q0, z0⟩ := r0
                          have f0 := e0.trans q0
                          exact Free.c_all rfl (Vr.m_lit _ _ _ [(0, .slice A0 ((l.take k) : List Rd).length c0)] rfl (by show [(0, a.eval (.tmp 71))] = _; rw [f0]) (build_l1 wa A0 _ c0) ⟨trivial, hF.step tbk ((Below.refl _ _).alloc (Nat.le_refl _) _) (LitV.made wa [.slice A0 ((l.take k) : List Rd).length c0] [(l.take k)] ⟨⟨A0, c0, rfl, z0⟩, trivial⟩ _ rfl _ rfl)⟩)
                        | 5 =>
                          cases hi
                          have h0 : a.eval (.tmp 68) = .agg #[.int .u8 (n.k : Nat), .int .u8 (n.a : Nat), .int .i64 n.b, .int .i64 n.d, .slice NA nm nc] := (hpre 0 _ _ (by kernel_rfl) rfl rfl).2.2
                          have p1 := hpre 4 _ _ (by kernel_rfl) rfl rfl
                          have e1 : a.eval (.tmp 72) = vs 4 := p1.2.1
                          have r1 := hF.2 4 p1.1
                          change LitV wa (vs 4) [(l.take k)] at r1
                          refine Free.c_all rfl (Free.g_call _ _ rfl Try.func14 (by kernel_rfl) rfl [.agg #[.int .u8 (n.k : Nat), .int .u8 (n.a : Nat), .int .i64 n.b, .int .i64 n.d, .slice NA nm nc], vs 4] (by show [a.eval (.tmp 68), a.eval (.tmp 72)] = _; rw [h0, e1]) ?_)
                          exact (HR3.out _ _ r1).mono fun e w2 ⟨⟨v9, he, hr9⟩, hb9⟩ => ⟨_, he, trivial, hF.step tbk hb9 ⟨v9, rfl, hr9⟩⟩
                        | 6 =>
                          cases hi
                          have p0 := hpre 5 _ _ (by kernel_rfl) rfl rfl
                          have e0 : a.eval (.tmp 73) = vs 5 := p0.2.1
                          have r0 := hF.2 5 p0.1
                          exact Free.c_all rfl (Free.g_move _ rfl ⟨trivial, hF.step tbk (Below.refl _ _) (by rw [e0]; exact r0)⟩)
                        | 7 =>
                          cases hi
                          have p0 := hpre 6 _ _ (by kernel_rfl) rfl rfl
                          have e0 : a.eval (.tmp 67) = vs 6 := p0.2.1
                          obtain ⟨v9, e9, r9⟩ := hF.2 6 p0.1
                          exact Free.c_all rfl (m_extract0 _ rfl (e0.trans e9) ⟨trivial, hF.step tbk (Below.refl _ _) r9⟩)
                        | 8 =>
                          cases hi
                          have p0 := hpre 6 _ _ (by kernel_rfl) rfl rfl
                          have e0 : a.eval (.tmp 67) = vs 6 := p0.2.1
                          obtain ⟨v9, e9, r9⟩ := hF.2 6 p0.1
                          exact Free.c_all rfl (m_extract1 _ rfl (e0.trans e9) ⟨rfl, hF.step tbk (Below.refl _ _) trivial⟩)
                        | 9 =>
                          cases hi
                          have p0 := hpre 7 _ _ (by kernel_rfl) rfl rfl
                          have e0 : a.eval (.tmp 74) = vs 7 := p0.2.1
                          have r0 := hF.2 7 p0.1
                          exact Free.c_all rfl (Free.g_assign _ rfl ⟨trivial, hF.step tbk (Below.refl _ _) (by rw [e0]; exact r0)⟩)
                        | _ + 10 => cases hi
                      · intro vs we hv hF
                        have k9 := hF.2 9 rfl
                        change RowV we (vs 9) P at k9
                        have HWE := Lib.hid hF.1; clear hF hv tbk
                        simp only [Free.puts, Nat.reduceAdd]
                        generalize vs 0 = y0 at *
                        generalize vs 1 = y1 at *
                        generalize vs 2 = y2 at *
                        generalize vs 3 = y3 at *
                        generalize vs 4 = y4 at *
                        generalize vs 5 = y5 at *
                        generalize vs 6 = y6 at *
                        generalize vs 7 = y7 at *
                        generalize vs 8 = y8 at *
                        generalize vs 9 = y9 at *
                        obtain ⟨Ap, cp, rfl, zp⟩ := k9
                        have Hp := Lib.hid (show RowV we (.slice Ap (P : List Rd).length cp) P from ⟨Ap, cp, rfl, zp⟩); clear zp
                        go_simp
                        have h := HA.out.below HWE.out; clear HA; have HA := Lib.hid h; clear h
                        have h := HB.out.below HWE.out; clear HB; have HB := Lib.hid h; clear h
                        have h := HNB.out.below HWE.out; clear HNB; have HNB := Lib.hid h; clear h
                        have h := HBK.out.below HWE.out; clear HBK; have HBK := Lib.hid h; clear h
                        have h := Hx.out.below HWE.out; clear Hx; have Hx := Lib.hid h; clear h
                        have h := Hy.out.below HWE.out; clear Hy; have Hy := Lib.hid h; clear h
                        have h := HRH.out.below HWE.out; clear HRH; have HRH := Lib.hid h; clear h
                        have h := HRL.out.below HWE.out; clear HRL; have HRL := Lib.hid h; clear h
                        have h := HBN.out.trans (HWE.out.mono HBN.out.size); clear HBN HWE; have HBN := Lib.hid h; clear h
                        clear HLD
                        have hld := NB.load HNB.out
                        have HLD := Lib.hid hld; clear hld
                        go_upto_region 16 with fail
                        have tbk := tbO16_keep A B NA c d k nm nc n l m P Q er vh vl
                        refine Free.wp_key (by kernel_rfl) (by kernel_rfl) (FT _ (tbO16 A B NA c d k nm nc n l m P Q er vh vl)) (vtO16 A B NA c d k nm nc n l m P Q er vh vl) (fun vs => FT.start (tbO16_end A B NA c d k nm nc n l m P Q er vh vl)) ?_ ?_
                        · intro i o hi b vs a wa hold hpre hbi hF
                          match i with
                          | 0 =>
                            cases hi
                            have h0 : a.eval (.tmp 4) = .pointer (some ⟨w.heap.size, 0, none⟩) := (hold 4 (by decide)).trans rfl
                            exact Free.c_all rfl (Free.g_load _ _ rfl h0 (HLD.out wa hF.1) ⟨rfl, hF.step tbk (Below.refl _ _) trivial⟩)
                          | 1 =>
                            cases hi
                            have h0 : a.eval (.tmp 1) = .slice A l.length c := (hold 1 (by decide)).trans rfl
                            exact Free.c_all rfl (Free.g_move _ rfl ⟨h0, hF.step tbk (Below.refl _ _) trivial⟩)
                          | 2 =>
                            cases hi
                            have h0 : a.eval (.tmp 11) = .int .i64 (k : Nat) := (hold 11 (by decide)).trans rfl
                            exact Free.c_all rfl (Free.g_move _ rfl ⟨h0, hF.step tbk (Below.refl _ _) trivial⟩)
                          | 3 =>
                            cases hi
                            have h1 : a.eval (.tmp 78) = .slice A l.length c := (hpre 1 _ _ (by kernel_rfl) rfl rfl).2.2
                            have h2 : a.eval (.tmp 79) = .int .i64 (k : Nat) := (hpre 2 _ _ (by kernel_rfl) rfl rfl).2.2
                            exact Free.c_all rfl (m_slice _ _ _ _ _ _ _ _ _ rfl h1 (by show some (a.eval (.tmp 79)) = _; rw [h2]) rfl rfl (HSL.out wa) ⟨rfl, hF.step tbk (Below.refl _ _) trivial⟩)
                          | 4 =>
                            cases hi
                            have e0 : a.eval (.tmp 80) = vl := (hpre 3 _ _ (by kernel_rfl) rfl rfl).2.2
                            have r0 := (HRL.out).below hF.1
                            obtain ⟨A0, c0, q0, z0⟩ := r0
                            have f0 := e0.trans q0
                            exact Free.c_all rfl (Vr.m_lit _ _ _ [(0, .slice A0 ((l.drop k) : List Rd).length c0)] rfl (by show [(0, a.eval (.tmp 80))] = _; rw [f0]) (build_l1 wa A0 _ c0) ⟨trivial, hF.step tbk ((Below.refl _ _).alloc (Nat.le_refl _) _) (LitV.made wa [.slice A0 ((l.drop k) : List Rd).length c0] [(l.drop k)] ⟨⟨A0, c0, rfl, z0⟩, trivial⟩ _ rfl _ rfl)⟩)
                          | 5 =>
                            cases hi
                            have h0 : a.eval (.tmp 77) = .agg #[.int .u8 (n.k : Nat), .int .u8 (n.a : Nat), .int .i64 n.b, .int .i64 n.d, .slice NA nm nc] := (hpre 0 _ _ (by kernel_rfl) rfl rfl).2.2
                            have p1 := hpre 4 _ _ (by kernel_rfl) rfl rfl
                            have e1 : a.eval (.tmp 81) = vs 4 := p1.2.1
                            have r1 := hF.2 4 p1.1
                            change LitV wa (vs 4) [(l.drop k)] at r1
                            refine Free.c_all rfl (Free.g_call _ _ rfl Try.func14 (by kernel_rfl) rfl [.agg #[.int .u8 (n.k : Nat), .int .u8 (n.a : Nat), .int .i64 n.b, .int .i64 n.d, .slice NA nm nc], vs 4] (by show [a.eval (.tmp 77), a.eval (.tmp 81)] = _; rw [h0, e1]) ?_)
                            exact (HR4.out _ _ r1).mono fun e w2 ⟨⟨v9, he, hr9⟩, hb9⟩ => ⟨_, he, trivial, hF.step tbk hb9 ⟨v9, rfl, hr9⟩⟩
                          | 6 =>
                            cases hi
                            have p0 := hpre 5 _ _ (by kernel_rfl) rfl rfl
                            have e0 : a.eval (.tmp 82) = vs 5 := p0.2.1
                            have r0 := hF.2 5 p0.1
                            exact Free.c_all rfl (Free.g_move _ rfl ⟨trivial, hF.step tbk (Below.refl _ _) (by rw [e0]; exact r0)⟩)
                          | 7 =>
                            cases hi
                            have p0 := hpre 6 _ _ (by kernel_rfl) rfl rfl
                            have e0 : a.eval (.tmp 76) = vs 6 := p0.2.1
                            obtain ⟨v9, e9, r9⟩ := hF.2 6 p0.1
                            exact Free.c_all rfl (m_extract0 _ rfl (e0.trans e9) ⟨trivial, hF.step tbk (Below.refl _ _) r9⟩)
                          | 8 =>
                            cases hi
                            have p0 := hpre 6 _ _ (by kernel_rfl) rfl rfl
                            have e0 : a.eval (.tmp 76) = vs 6 := p0.2.1
                            obtain ⟨v9, e9, r9⟩ := hF.2 6 p0.1
                            exact Free.c_all rfl (m_extract1 _ rfl (e0.trans e9) ⟨rfl, hF.step tbk (Below.refl _ _) trivial⟩)
                          | 9 =>
                            cases hi
                            have p0 := hpre 7 _ _ (by kernel_rfl) rfl rfl
                            have e0 : a.eval (.tmp 83) = vs 7 := p0.2.1
                            have r0 := hF.2 7 p0.1
                            exact Free.c_all rfl (Free.g_assign _ rfl ⟨trivial, hF.step tbk (Below.refl _ _) (by rw [e0]; exact r0)⟩)
                          | _ + 10 => cases hi
                        · intro vs wf hv hF
                          have k9 := hF.2 9 rfl
                          change RowV wf (vs 9) Q at k9
                          have HWE := Lib.hid hF.1; clear hF hv tbk
                          simp only [Free.puts, Nat.reduceAdd]
                          generalize vs 0 = y0 at *
                          generalize vs 1 = y1 at *
                          generalize vs 2 = y2 at *
                          generalize vs 3 = y3 at *
                          generalize vs 4 = y4 at *
                          generalize vs 5 = y5 at *
                          generalize vs 6 = y6 at *
                          generalize vs 7 = y7 at *
                          generalize vs 8 = y8 at *
                          generalize vs 9 = y9 at *
                          obtain ⟨Aq, cq, rfl, zq⟩ := k9
                          have Hq := Lib.hid (show RowV wf (.slice Aq (Q : List Rd).length cq) Q from ⟨Aq, cq, rfl, zq⟩); clear zq
                          go_simp
                          have h := HA.out.below HWE.out; clear HA; have HA := Lib.hid h; clear h
                          have h := HB.out.below HWE.out; clear HB; have HB := Lib.hid h; clear h
                          have h := HNB.out.below HWE.out; clear HNB; have HNB := Lib.hid h; clear h
                          have h := HBK.out.below HWE.out; clear HBK; have HBK := Lib.hid h; clear h
                          have h := Hx.out.below HWE.out; clear Hx; have Hx := Lib.hid h; clear h
                          have h := Hy.out.below HWE.out; clear Hy; have Hy := Lib.hid h; clear h
                          have h := HRH.out.below HWE.out; clear HRH; have HRH := Lib.hid h; clear h
                          have h := HRL.out.below HWE.out; clear HRL; have HRL := Lib.hid h; clear h
                          have h := Hp.out.below HWE.out; clear Hp; have Hp := Lib.hid h; clear h
                          have h := HBN.out.trans (HWE.out.mono HBN.out.size); clear HBN HWE; have HBN := Lib.hid h; clear h
                          clear HRH HRL HSH HSL HLD HR1 HR2 HR3 HR4
                          have h := HBN.out; clear HBN; have Hb := Lib.hid h; clear h
                          have hc := alike_v Hx.out Hy.out (by omega) (by omega)
                          rw [sameR_self] at hc
                          have HC := Lib.hid hc; clear hc
                          go_wp2_with fail
                          refine HC.out.mono ?_; rintro e w50 ⟨rfl, hb0⟩
                          clear HC
                          have hb := hb0
                          clear hb0
                          have h := HA.out.below hb; clear HA; have HA := Lib.hid h; clear h
                          have h := HB.out.below hb; clear HB; have HB := Lib.hid h; clear h
                          have h := HNB.out.below hb; clear HNB; have HNB := Lib.hid h; clear h
                          have h := HBK.out.below hb; clear HBK; have HBK := Lib.hid h; clear h
                          have h := Hx.out.below hb; clear Hx; have Hx := Lib.hid h; clear h
                          have h := Hy.out.below hb; clear Hy; have Hy := Lib.hid h; clear h
                          have h := Hp.out.below hb; clear Hp; have Hp := Lib.hid h; clear h
                          have h := Hq.out.below hb; clear Hq; have Hq := Lib.hid h; clear h
                          have h := Hb.out.trans (hb.mono Hb.out.size); clear Hb hb; have Hb := Lib.hid h; clear h
                          dsimp only
                          have hcs := cells5 HNB.out
                          obtain ⟨n0, n1, n2, n3, n4⟩ := hcs
                          have hc := waits_any n.k w50
                          rw [HWT.out] at hc
                          have HC := Lib.hid hc; clear hc
                          go_wp2_with fail
                          refine HC.out.mono ?_; rintro e w0 ⟨rfl, rfl⟩
                          clear HC
                          dsimp only
                          clear n0 n1 n2 n3 n4
                          have hc := HADD.out _ _ (LitV.made w50 [.slice Ap P.length cp, .slice Aq Q.length cq] [P, Q] ⟨Hp.out, Hq.out, trivial⟩ #[.slice Ap P.length cp, .slice Aq Q.length cq] rfl 2 rfl)
                          have HC := Lib.hid hc; clear hc
                          go_wp2_with fail
                          refine HC.out.mono ?_; rintro e w52 ⟨⟨v, rfl, hr⟩, hb0⟩
                          clear HC
                          have hb : Below w50.heap.size w50 w52 := ((Below.refl _ w50).alloc (Nat.le_refl _) _).trans (hb0.mono (by simp))
                          clear hb0
                          have h := HA.out.below hb; clear HA; have HA := Lib.hid h; clear h
                          have h := HB.out.below hb; clear HB; have HB := Lib.hid h; clear h
                          have h := HNB.out.below hb; clear HNB; have HNB := Lib.hid h; clear h
                          have h := HBK.out.below hb; clear HBK; have HBK := Lib.hid h; clear h
                          have h := Hx.out.below hb; clear Hx; have Hx := Lib.hid h; clear h
                          have h := Hy.out.below hb; clear Hy; have Hy := Lib.hid h; clear h
                          have h := Hp.out.below hb; clear Hp; have Hp := Lib.hid h; clear h
                          have h := Hq.out.below hb; clear Hq; have Hq := Lib.hid h; clear h
                          have h := Hb.out.trans (hb.mono Hb.out.size); clear Hb hb; have Hb := Lib.hid h; clear h
                          obtain ⟨As, cs, rfl, zs⟩ := hr
                          have Hs := Lib.hid (show RowV w52 (.slice As (X : List Rd).length cs) X from ⟨As, cs, rfl, zs⟩); clear zs
                          dsimp only
                          have hc := alike_v Hx.out Hs.out (by omega) (by omega)
                          rw [sameR_self] at hc
                          have HC := Lib.hid hc; clear hc
                          go_wp2_with fail
                          refine HC.out.mono ?_; rintro e w53 ⟨rfl, hb0⟩
                          clear HC
                          have hb := hb0
                          clear hb0
                          have h := HA.out.below hb; clear HA; have HA := Lib.hid h; clear h
                          have h := HB.out.below hb; clear HB; have HB := Lib.hid h; clear h
                          have h := HNB.out.below hb; clear HNB; have HNB := Lib.hid h; clear h
                          have h := HBK.out.below hb; clear HBK; have HBK := Lib.hid h; clear h
                          have h := Hx.out.below hb; clear Hx; have Hx := Lib.hid h; clear h
                          have h := Hy.out.below hb; clear Hy; have Hy := Lib.hid h; clear h
                          have h := Hp.out.below hb; clear Hp; have Hp := Lib.hid h; clear h
                          have h := Hq.out.below hb; clear Hq; have Hq := Lib.hid h; clear h
                          have h := Hs.out.below hb; clear Hs; have Hs := Lib.hid h; clear h
                          have h := Hb.out.trans (hb.mono Hb.out.size); clear Hb hb; have Hb := Lib.hid h; clear h
                          dsimp only
                          have hc := works_any w53
                          have HC := Lib.hid hc; clear hc
                          go_wp2_with fail
                          refine HC.out.mono ?_; rintro e w54 ⟨rfl, hb0⟩
                          clear HC
                          have hb := hb0
                          clear hb0
                          have h := HA.out.below hb; clear HA; have HA := Lib.hid h; clear h
                          have h := HB.out.below hb; clear HB; have HB := Lib.hid h; clear h
                          have h := HNB.out.below hb; clear HNB; have HNB := Lib.hid h; clear h
                          have h := HBK.out.below hb; clear HBK; have HBK := Lib.hid h; clear h
                          have h := Hx.out.below hb; clear Hx; have Hx := Lib.hid h; clear h
                          have h := Hy.out.below hb; clear Hy; have Hy := Lib.hid h; clear h
                          have h := Hp.out.below hb; clear Hp; have Hp := Lib.hid h; clear h
                          have h := Hq.out.below hb; clear Hq; have Hq := Lib.hid h; clear h
                          have h := Hs.out.below hb; clear Hs; have Hs := Lib.hid h; clear h
                          have h := Hb.out.trans (hb.mono Hb.out.size); clear Hb hb; have Hb := Lib.hid h; clear h
                          dsimp only
                          go_wp2_with fail
                          go_ret
                          exact ⟨rfl, Hb.out⟩
        · obtain ⟨r, hr⟩ : ∃ r, l[q]? = some r := ⟨_, List.getElem?_eq_getElem (by omega)⟩
          obtain ⟨A1', c1', e1', hTL, _⟩ := HA.out
          injection e1' with e1 e2 e3
          subst e1 e3
          clear e2
          obtain ⟨bl, ol, rfl, hbl, hql⟩ := recs_at hTL hr
          obtain ⟨e0, e1⟩ := hql wr HBR.out
          have hst := back_step hr
          have hll : (l.drop (q + 1)).reverse.length ≤ l.length := by simp
          have HST := Lib.hid hst; clear hst hql hr hTL
          rw [show ((q + 1 : Nat) : Int) - 1 = (q : Int) by omega]
          generalize (l.drop (q + 1)).reverse = us at *
          have s1 : IntKind.i64.wrap ((q : Int) - 1) = (q : Int) - 1 := IntWalk.i64_in _ (by omega)
          have d1 : decide ((q : Int) ≥ 0) = true := by simp
          have s2 : (0 : Int) ≤ (q : Int) := by omega
          have s3 : (q : Int) < (l.length : Int) := by omega
          have s4 : q < l.length := by omega
          have HBS := Lib.hid HBR.out.size
          go_wp2_with (at_builtin; refine Rw.append_own kindR 36 28 Try.underlying28 infoRec rfl rfl _ _ rfl w1.heap.size _ us.length us rfl (HO.out.alloc _) _ 1 [r] rfl (by simp) (Rw.Ts.made _ [r] _) (by unfold maxLen; simp; omega) (by simp; omega) (by have := HBS.out; simp; omega) ?_; intro v2 w6 hv2 hg2; have hb6 := Rw.own_below (HO.out.alloc _) hg2 (HBR.out.alloc HBS.out _) (by have := HBS.out; simp; omega); have HV6 : Hid (w6.ownsRow w1.heap.size 36 kindR.K v2 (us ++ [r]).length (Rw.row kindR (us ++ [r]))) := Lib.hid (by rw [List.length_append]; exact hv2); have HB6 := Lib.hid hb6; clear hv2 hg2 hb6 e0 e1)
          go_roundw
          case rel => exact ⟨q, by omega, rfl, by rw [HST.out]; exact HV6.out, HB6.out⟩
          case measure => simp only [intOf]; omega

set_option maxRecDepth 100000 in
theorem lifted (os : Os) (started : os.Started) (H : Type) (enc : TypeId × Value → H) :
    ReturnsInHanded {} Try.checked os 6 .any (Rows.opersOrderSpec.pre6 enc Try.prog Try.f6 Rows.opersOrderRow.domain false) (Rows.opersOrderSpec.post enc Try.prog Try.f6 false true false false) := by
  refine returnsInHanded_of_change_sized (C := Try.checked) ownKnob_none started (by kernel_rfl) Try.func6
    (ChangeSpec.witness6 (enc := enc) (C := Try.checked) false ⟨#[], #[.agg #[.int .u8 0, .int .u8 0, .int .i64 0, .int .i64 0, .slice none 0 0], .slice none 0 0, .slice none 0 0, .int .i64 0], []⟩ 8 (by kernel_rfl) (by kernel_rfl) (by kernel_rfl) (by kernel_rfl)) ?_
  intro W base args ds gs before hval0 hW hcnd hsz0 _
  have hval : ∀ (j : Nat) t v, Try.f6.params[j]? = some t → args[j]? = some v → Value.okWide Try.prog W .any base t v := hval0
  have hW' := hW
  obtain ⟨p, q, hA0, hV, rfl, hfz, hnd⟩ := hW
  have hA : DataW.TrodAll enc Try.prog W 0 (fun _ => true) true Try.f6.params.toList args.toList ds p := hA0
  have hsz : (DataW.weightsEach Try.prog (Try.f6.params.toList ++ Rows.opersOrderSpec.plain.varTypes Try.prog) (ds ++ gs)).all (· ≤ reachBytes) = true := hsz0
  rw [Try.params6] at hA hval hsz
  obtain ⟨v0, vs0, d0, ds0, p0, q0, hargs, rfl, rfl, h0, r0⟩ := trodAll_cons hA
  obtain ⟨v1, vs1, d1, ds1, p1, q1, rfl, rfl, rfl, h1, r1⟩ := trodAll_cons r0
  obtain ⟨v2, vs2, d2, ds2, p2, q2, rfl, rfl, rfl, h2, r2⟩ := trodAll_cons r1
  obtain ⟨v3, vs3, d3, ds3, p3, q3, rfl, rfl, rfl, h3, r3⟩ := trodAll_cons r2
  obtain ⟨rfl, rfl, rfl⟩ := trodAll_nil r3
  obtain rfl : args = #[v0, v1, v2, v3] := by cases args; simp_all
  obtain ⟨rfl, rfl⟩ := trodVars_none hV
  obtain ⟨n0, NA0, nm0, nc0, rfl, hN0⟩ := Op.open_node (hval 0 24 v0 rfl rfl) h0
  obtain ⟨A1, l1, c1, rfl, hT1, hw1, hc1, hm1, hn1⟩ := Vr.open_recs (hval 1 28 v1 rfl rfl) h1
  obtain ⟨A2, l2, c2, rfl, hT2, hw2, hc2, hm2, hn2⟩ := Vr.open_recs (hval 2 28 v2 rfl rfl) h2
  obtain ⟨a3, rfl, rfl, rfl, w3⟩ := open_int Try.underlying3 (hval 3 3 v3 rfl rfl) h3
  have b3 := i64_wf w3
  clear hA0 hval0 hsz0
  refine (walk n0 NA0 nm0 nc0 hN0 A1 A2 l1 l2 c1 c2 a3 (by have := b3; omega) W ⟨A1, c1, rfl, hT1, hn1, hc1, hm1⟩ ⟨A2, c2, rfl, hT2, hn2, hc2, hm2⟩ hw1 hw2).mono fun e W' ⟨he, hg⟩ => ?_
  subst he
  exact ⟨_, rfl, law_post progLaid hW' rfl (by rw [Try.params6]; intro t ht; simp at ht; rcases ht with rfl | rfl | rfl <;> exact ⟨by kernel_rfl, of_decide_eq_true (by kernel_rfl)⟩) rfl Try.underlying4 rfl hg⟩

theorem over : Rows.opersOrderRow.holds Try.pinned (OpenSpec.ofChange Rows.opersOrderSpec) :=
  OpenClaim.holds_of_wide 6 Try.f6 rfl rfl rfl rfl rfl rfl rfl ⟨rfl, rfl, rfl, rfl, rfl⟩ rfl rfl rfl rfl rfl (by kernel_rfl) Try.func6 (by kernel_rfl)
    (of_decide_eq_true (by kernel_rfl)) (by unfold Func.isWrapper; first | (rw [if_pos (by decide +kernel)]; kernel_rfl) | (rw [if_neg (by decide +kernel)]; exact ⟨rfl, rfl⟩))
    (fun os started H enc _ => lifted os started H enc)

/-- The statement. -/
theorem proved : Rows.OpersOrderSaid :=
  over
end opersOrder
end Go.Proofs.Ytcjdjdhjbchaaaa
