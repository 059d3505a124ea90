/- OpersJoins: of two rows turned about the same; cut, each part's together; nothing without the other side. -/
import Derived.Test.YtkhmefbmffpkcaaCa25
import Derived.Test.YtkhmefbmffpkcaaCa26
import Derived.Test.YtkhmefbmffpkcaaCa9
import Derived.Test.YtkhmefbmffpkcaaCa21
import Derived.Test.YtkhmefbmffpkcaaOpSlice
import Derived.SizedLaws
namespace Go.Proofs.Ytkhmefbmffpkcaa
open Go.ChangeShapes Go.WideShapes Go.ChangeAt Go.RowKit Go.BigFrame
open Vr _root_.Go.Proofs.Ytkhmefbmffpkcaa.Op
set_option linter.unusedVariables false
set_option maxRecDepth 100000
namespace opersJoins
/-- a node in its box -/
def NB (n : Nd) (A : Option Addr) (m c g : Nat) (w : World) : Prop := Row w g 24 [.int .u8 (n.k : Nat), .int .u8 (n.a : Nat), .int .i64 n.b, .int .i64 n.d, .slice A m c]
theorem NB.below {n : Nd} {A : Option Addr} {m c g : Nat} {w w' : World} (h : NB n A m c g w) (hb : Below w.heap.size w w') : NB n A m c g w' := Row.below h hb (Row.lt h)
theorem NB.load {n : Nd} {A : Option Addr} {m c g : Nat} {w : World} (h : NB n A m c g w) : ∀ w', Below w.heap.size w w' → (Instr.loadAt 24 (.pointer (some ⟨g, 0, none⟩))).run Try.prog w' = .ok (nodeV n A m c) w' := fun w' hb => load_node (h.below hb)
/-- the node -/
@[reducible] def nJ : Nd := ⟨6, 0, 0, 0, []⟩
theorem runJ {a b : List Rd} : runR nJ [a, b] = sortR (joinR a b) := rfl
theorem errJ {a b : List Rd} : errR nJ [a, b].length = 0 := rfl
theorem run_j {a b : List Rd} (hWa : ∀ r ∈ a, r.W) (hWb : ∀ r ∈ b, r.W) (ha : a.length ≤ 40) (hb : b.length ≤ 40) (X : List Rd) (hX : sortR (joinR a b) = X) (w : World) (v : Value) (h : LitV w v [a, b]) :
    Calls Try.prog 14 #[.agg #[.int .u8 6, .int .u8 0, .int .i64 0, .int .i64 0, .slice none 0 0], v] w (GivesE X 0 w) := by
  have hr := run_v nJ none 0 0 (LitV.inV h) (by show 6 < 256; omega) (by show 0 < 256; omega) (by simp) (by simp) (by simp)
    (fun q hq => by simp only [List.mem_cons, List.mem_singleton, List.not_mem_nil, or_false] at hq; rcases hq with rfl | rfl <;> assumption)
    (fun q hq => by simp only [List.mem_cons, List.mem_singleton, List.not_mem_nil, or_false] at hq; rcases hq with rfl | rfl <;> omega)
  rw [errJ, runJ, hX] at hr
  exact hr
def hasK (l : List Rd) (k : Int) : Bool := l.any fun r => r.k == k
theorem hasK_step {l : List Rd} {k : Int} {j : Nat} {r : Rd} (h : l[j]? = some r) : hasK (l.take (j + 1)) k = (hasK (l.take j) k || r.k == k) := by
  rw [List.take_add_one, h]; simp [hasK]
theorem hasK_all {l : List Rd} {k : Int} (h : k ∈ keysOf l) : hasK (l.take l.length) k = true := by
  obtain ⟨r, hr, e⟩ := mem_keysOf.1 h
  rw [List.take_length]
  exact List.any_eq_true.2 ⟨r, hr, by simp [e]⟩
theorem swapJ (a b : List Rd) : sortR (joinR b a) = sortR (joinR a b) := sortR_iff.2 joinR_swap
theorem cutJ (a b : List Rd) (k : Nat) : sortR ([sortR (joinR (a.take k) b), sortR (joinR (a.drop k) b)] : List (List Rd)).flatten = sortR (joinR a b) := by
  refine sortR_iff.2 ?_
  have h := joinR_app (x := a.take k) (y := a.drop k) (b := b)
  rw [List.take_append_drop] at h
  rw [h]
  simp only [List.flatten_cons, List.flatten_nil, List.append_nil]
  exact List.Perm.append sortR_perm sortR_perm
theorem noneJ (a : List Rd) : sortR (joinR a []) = [] := by rw [joinR_nil_right]; rfl
def tbJ7 (A B : Option Addr) (c d k : Nat) (l m P Q : List Rd) (vh vl : Value) (i : Nat) : World → Value → Prop := match i with
  | 5 => fun w v => LitV w v [(l.take k), m]
  | 6 => fun w v => TupV w v P 0
  | 7 => fun w v => TupV w v P 0
  | 8 => fun w v => RowV w v P
  | 10 => fun w v => RowV w v P
  | _ => fun _ _ => True
def vtJ7 (A B : Option Addr) (c d k : Nat) (l m P Q : List Rd) (vh vl : Value) (i : Nat) (v : Value) : Prop := match i with
  | 0 => v = .agg #[.int .u8 6, .int .u8 0, .int .i64 0, .int .i64 0, .slice none 0 0]
  | 1 => v = .slice A l.length c
  | 2 => v = .int .i64 (k : Nat)
  | 3 => v = vh
  | 4 => v = .slice B m.length d
  | 9 => v = .int .i64 0
  | 11 => v = .int .i64 0
  | _ => True
theorem tbJ7_keep (A B : Option Addr) (c d k : Nat) (l m P Q : List Rd) (vh vl : Value) : ∀ i, Kept (tbJ7 A B c d k l m P Q vh vl i) := fun i => by
  unfold tbJ7
  split <;> first | exact kept_row _ | exact kept_tup _ _ | exact kept_lit _ | exact kept_byt _ | exact kept_true
theorem tbJ7_end (A B : Option Addr) (c d k : Nat) (l m P Q : List Rd) (vh vl : Value) : ∀ i w v, 12 ≤ i → tbJ7 A B c d k l m P Q vh vl i w v := fun i w v h => by
  unfold tbJ7
  split <;> first | trivial | (exfalso; omega)
def tbJ8 (A B : Option Addr) (c d k : Nat) (l m P Q : List Rd) (vh vl : Value) (i : Nat) : World → Value → Prop := match i with
  | 5 => fun w v => LitV w v [(l.drop k), m]
  | 6 => fun w v => TupV w v Q 0
  | 7 => fun w v => TupV w v Q 0
  | 8 => fun w v => RowV w v Q
  | 10 => fun w v => RowV w v Q
  | _ => fun _ _ => True
def vtJ8 (A B : Option Addr) (c d k : Nat) (l m P Q : List Rd) (vh vl : Value) (i : Nat) (v : Value) : Prop := match i with
  | 0 => v = .agg #[.int .u8 6, .int .u8 0, .int .i64 0, .int .i64 0, .slice none 0 0]
  | 1 => v = .slice A l.length c
  | 2 => v = .int .i64 (k : Nat)
  | 3 => v = vl
  | 4 => v = .slice B m.length d
  | 9 => v = .int .i64 0
  | 11 => v = .int .i64 0
  | _ => True
theorem tbJ8_keep (A B : Option Addr) (c d k : Nat) (l m P Q : List Rd) (vh vl : Value) : ∀ i, Kept (tbJ8 A B c d k l m P Q vh vl i) := fun i => by
  unfold tbJ8
  split <;> first | exact kept_row _ | exact kept_tup _ _ | exact kept_lit _ | exact kept_byt _ | exact kept_true
theorem tbJ8_end (A B : Option Addr) (c d k : Nat) (l m P Q : List Rd) (vh vl : Value) : ∀ i w v, 12 ≤ i → tbJ8 A B c d k l m P Q vh vl i w v := fun i w v h => by
  unfold tbJ8
  split <;> first | trivial | (exfalso; omega)
set_option maxHeartbeats 16000000 in
theorem walk (A B : Option Addr) (l m : List Rd) (c d cut : Nat) (hcut : cut < 256) (w : World) (hA : RowV w (.slice A l.length c) l) (hB : RowV w (.slice B m.length d) m) (hW : ∀ r ∈ l, r.W) (hV : ∀ r ∈ m, r.W) :
    Calls Try.prog 10 #[.slice A l.length c, .slice B m.length d, .int .u8 (cut : Nat)] w fun e w' => e = .returned (.bool true) ∧ Below w.heap.size w w' := by
  have HA := Lib.hid hA; have HB := Lib.hid hB; have HW := Lib.hid hW; have HV := Lib.hid hV; clear hA hB hW hV
  have Hb := Lib.hid (Below.refl w.heap.size w)
  by_cases hx : 40 < l.length
  · have hzl : (40 : Int) < (l.length : Int) := by omega
    have dl : decide ((40 : Int) < (l.length : Int)) = true := by simp; omega
    go_enter Try.func10, Try.ntmps10
    have hc := works_any w
    have HC := Lib.hid hc; clear hc
    go_wp2_with fail
    refine HC.out.mono ?_; rintro e w2 ⟨rfl, hb0⟩
    clear HC
    have hb := hb0
    clear hb0
    have h := HA.out.below hb; clear HA; have HA := Lib.hid h; clear h
    have h := HB.out.below hb; clear HB; have HB := Lib.hid h; clear h
    have h := Hb.out.trans (hb.mono Hb.out.size); clear Hb hb; have Hb := Lib.hid h; clear h
    dsimp only
    go_wp2_with fail
    go_ret
    exact ⟨rfl, Hb.out⟩
  · have hzl : ¬ (40 : Int) < (l.length : Int) := by omega
    have dl : decide ((40 : Int) < (l.length : Int)) = false := by simp; omega
    have hl : l.length ≤ 40 := by omega
    clear hx
    by_cases hx : 40 < m.length
    · have hzm : (40 : Int) < (m.length : Int) := by omega
      have dm : decide ((40 : Int) < (m.length : Int)) = true := by simp; omega
      go_enter Try.func10, Try.ntmps10
      have hc := works_any w
      have HC := Lib.hid hc; clear hc
      go_wp2_with fail
      refine HC.out.mono ?_; rintro e w2 ⟨rfl, hb0⟩
      clear HC
      have hb := hb0
      clear hb0
      have h := HA.out.below hb; clear HA; have HA := Lib.hid h; clear h
      have h := HB.out.below hb; clear HB; have HB := Lib.hid h; clear h
      have h := Hb.out.trans (hb.mono Hb.out.size); clear Hb hb; have Hb := Lib.hid h; clear h
      dsimp only
      go_wp2_with fail
      go_ret
      exact ⟨rfl, Hb.out⟩
    · have hzm : ¬ (40 : Int) < (m.length : Int) := by omega
      have dm : decide ((40 : Int) < (m.length : Int)) = false := by simp; omega
      have hm : m.length ≤ 40 := by omega
      clear hx
      obtain ⟨k, hk⟩ : ∃ k, cut % (l.length + 1) = k := ⟨_, rfl⟩
      have hkl : k ≤ l.length := by have := Nat.mod_lt cut (show 0 < l.length + 1 by omega); omega
      have s0 : IntKind.i64.wrap (cut : Int) = (cut : Int) := IntWalk.i64_in _ (by omega)
      have s1 : IntKind.i64.wrap ((l.length : Int) + 1) = (l.length : Int) + 1 := IntWalk.i64_in _ (by omega)
      have s2 : ¬ (l.length : Int) + 1 = 0 := by omega
      have s3 : (cut : Int).tmod ((l.length : Int) + 1) = (k : Int) := by rw [Int.tmod_eq_emod_of_nonneg (by omega), ← hk]; rfl
      have s4 : IntKind.i64.wrap (k : Int) = (k : Int) := IntWalk.i64_in _ (by omega)
      obtain ⟨X, hX⟩ : ∃ X, sortR (joinR l m) = X := ⟨_, rfl⟩
      obtain ⟨P, hP⟩ : ∃ P, sortR (joinR (l.take k) m) = P := ⟨_, rfl⟩
      obtain ⟨Q, hQ⟩ : ∃ Q, sortR (joinR (l.drop k) m) = Q := ⟨_, rfl⟩
      have hPQ := cutJ l m k
      rw [hP, hQ, hX] at hPQ
      have hsw := swapJ l m
      rw [hX] at hsw
      have htl : (l.take k).length ≤ 40 := by rw [List.length_take]; omega
      have hdl : (l.drop k).length ≤ 40 := by rw [List.length_drop]; omega
      have hlen : ∀ {a b : List Rd}, a.length ≤ 40 → b.length ≤ 40 → (sortR (joinR a b)).length ≤ 1600 := fun {a b} h1 h2 => by
        rw [sortR_perm.length_eq]
        exact Nat.le_trans joinR_len (Nat.mul_le_mul h1 h2)
      have hXl : X.length ≤ 1600 := by rw [← hX]; exact hlen hl hm
      have hPl : P.length ≤ 1600 := by rw [← hP]; exact hlen htl hm
      have hQl : Q.length ≤ 1600 := by rw [← hQ]; exact hlen hdl hm
      have hKey : ∀ r ∈ X, r.k ∈ keysOf l ∧ r.k ∈ keysOf m := fun r hr => joinR_key (by rw [← hX] at hr; exact sortR_perm.mem_iff.1 hr)
      have HR1 := Lib.hid (run_j HW.out HV.out hl hm X hX)
      have HR2 := Lib.hid (run_j HV.out HW.out hm hl X hsw)
      have HR3 := Lib.hid (run_j (fun r hr => HW.out r (List.mem_of_mem_take hr)) HV.out htl hm P hP)
      have HR4 := Lib.hid (run_j (fun r hr => HW.out r (List.mem_of_mem_drop hr)) HV.out hdl hm Q hQ)
      have HR5 := Lib.hid (run_j HW.out (fun r hr => by simp at hr) hl (by simp) [] (noneJ l))
      have HADD := Lib.hid (fun (w : World) (v : Value) (h : LitV w v [P, Q]) => add_v h (by simp) (by simp; omega))
      rw [hPQ] at HADD
      have HKEY := Lib.hid hKey
      clear hX hP hQ hPQ hsw htl hdl hlen hKey hk HW HV
      have hnb : NB nJ none 0 0 w.heap.size (w.alloc (.cells #[.int .u8 6, .int .u8 0, .int .i64 0, .int .i64 0, .slice none 0 0] 24)) := node_box w nJ none 0 0
      have HNB := Lib.hid hnb; clear hnb
      have hbn := (Below.refl _ w).alloc (Nat.le_refl _) (.cells #[.int .u8 6, .int .u8 0, .int .i64 0, .int .i64 0, .slice none 0 0] 24)
      have h := HA.out.below hbn; clear HA; have HA := Lib.hid h; clear h
      have h := HB.out.below hbn; clear HB; have HB := Lib.hid h; clear h
      have HBN := Lib.hid hbn; clear hbn Hb
      go_enter Try.func10, Try.ntmps10
      go_upto_region 4 with fail
      generalize w.alloc (.cells #[.int .u8 6, .int .u8 0, .int .i64 0, .int .i64 0, .slice none 0 0] 24) = w1 at *
      have hcs := cells5 HNB.out
      obtain ⟨n0, n1, n2, n3, n4⟩ := hcs
      try simp only at n0 n1
      have hc := HR1.out _ _ (LitV.made w1 [.slice A l.length c, .slice B m.length d] [l, m] ⟨HA.out, HB.out, trivial⟩ #[.slice A l.length c, .slice B m.length d] rfl 2 rfl)
      have HC := Lib.hid hc; clear hc
      go_wp2_with fail
      refine HC.out.mono ?_; rintro e w2 ⟨⟨v, rfl, hr⟩, hb0⟩
      clear HC n0 n1 n2 n3 n4
      have hb : Below w1.heap.size w1 w2 := ((Below.refl _ w1).alloc (Nat.le_refl _) _).trans (hb0.mono (by simp))
      clear hb0
      have h := HA.out.below hb; clear HA; have HA := Lib.hid h; clear h
      have h := HB.out.below hb; clear HB; have HB := Lib.hid h; clear h
      have h := HNB.out.below hb; clear HNB; have HNB := Lib.hid h; clear h
      have h := HBN.out.trans (hb.mono HBN.out.size); clear HBN hb; have HBN := Lib.hid h; clear h
      obtain ⟨Ax, cx, rfl, zx⟩ := hr
      have Hx := Lib.hid (show RowV w2 (.slice Ax (X : List Rd).length cx) X from ⟨Ax, cx, rfl, zx⟩); clear zx
      dsimp only
      have hcs := cells5 HNB.out
      obtain ⟨n0, n1, n2, n3, n4⟩ := hcs
      try simp only at n0 n1
      have hc := HR2.out _ _ (LitV.made w2 [.slice B m.length d, .slice A l.length c] [m, l] ⟨HB.out, HA.out, trivial⟩ #[.slice B m.length d, .slice A l.length c] rfl 2 rfl)
      have HC := Lib.hid hc; clear hc
      go_wp2_with fail
      refine HC.out.mono ?_; rintro e w3 ⟨⟨v, rfl, hr⟩, hb0⟩
      clear HC n0 n1 n2 n3 n4
      have hb : Below w2.heap.size w2 w3 := ((Below.refl _ w2).alloc (Nat.le_refl _) _).trans (hb0.mono (by simp))
      clear hb0
      have h := HA.out.below hb; clear HA; have HA := Lib.hid h; clear h
      have h := HB.out.below hb; clear HB; have HB := Lib.hid h; clear h
      have h := HNB.out.below hb; clear HNB; have HNB := Lib.hid h; clear h
      have h := Hx.out.below hb; clear Hx; have Hx := Lib.hid h; clear h
      have h := HBN.out.trans (hb.mono HBN.out.size); clear HBN hb; have HBN := Lib.hid h; clear h
      obtain ⟨Ay, cy, rfl, zy⟩ := hr
      have Hy := Lib.hid (show RowV w3 (.slice Ay (X : List Rd).length cy) X from ⟨Ay, cy, rfl, zy⟩); clear zy
      dsimp only
      obtain ⟨vh, hsh, hrh⟩ := slice_hi HA.out hkl
      obtain ⟨vl, hsl, hrl⟩ := slice_lo HA.out hkl
      have HSH := Lib.hid hsh; have HRH := Lib.hid hrh; have HSL := Lib.hid hsl; have HRL := Lib.hid hrl
      clear hsh hrh hsl hrl
      have hld := NB.load HNB.out
      have HLD := Lib.hid hld; clear hld
      go_upto_region 7 with fail
      have tbk := tbJ7_keep A B c d k l m P Q vh vl
      refine Free.wp_key (by kernel_rfl) (by kernel_rfl) (FT _ (tbJ7 A B c d k l m P Q vh vl)) (vtJ7 A B c d k l m P Q vh vl) (fun vs => FT.start (tbJ7_end A B c d k l m P Q vh vl)) ?_ ?_
      · intro i o hi b vs a wa hold hpre hbi hF
        match i with
        | 0 =>
          cases hi
          have h0 : a.eval (.tmp 7) = .pointer (some ⟨w.heap.size, 0, none⟩) := (hold 7 (by decide)).trans rfl
          exact Free.c_all rfl (Free.g_load _ _ rfl h0 (HLD.out wa hF.1) ⟨rfl, hF.step tbk (Below.refl _ _) trivial⟩)
        | 1 =>
          cases hi
          have h0 : a.eval (.tmp 0) = .slice A l.length c := (hold 0 (by decide)).trans rfl
          exact Free.c_all rfl (Free.g_move _ rfl ⟨h0, hF.step tbk (Below.refl _ _) trivial⟩)
        | 2 =>
          cases hi
          have h0 : a.eval (.tmp 8) = .int .i64 (k : Nat) := (hold 8 (by decide)).trans rfl
          exact Free.c_all rfl (Free.g_move _ rfl ⟨h0, hF.step tbk (Below.refl _ _) trivial⟩)
        | 3 =>
          cases hi
          have h1 : a.eval (.tmp 58) = .slice A l.length c := (hpre 1 _ _ (by kernel_rfl) rfl rfl).2.2
          have h2 : a.eval (.tmp 59) = .int .i64 (k : Nat) := (hpre 2 _ _ (by kernel_rfl) rfl rfl).2.2
          exact Free.c_all rfl (m_slice _ _ _ _ _ _ _ _ _ rfl h1 rfl (by show some (a.eval (.tmp 59)) = _; rw [h2]) rfl (HSH.out wa) ⟨rfl, hF.step tbk (Below.refl _ _) trivial⟩)
        | 4 =>
          cases hi
          have h0 : a.eval (.tmp 1) = .slice B m.length d := (hold 1 (by decide)).trans rfl
          exact Free.c_all rfl (Free.g_move _ rfl ⟨h0, hF.step tbk (Below.refl _ _) trivial⟩)
        | 5 =>
          cases hi
          have e0 : a.eval (.tmp 60) = vh := (hpre 3 _ _ (by kernel_rfl) rfl rfl).2.2
          have r0 := (HRH.out).below hF.1
          have e1 : a.eval (.tmp 61) = .slice B m.length d := (hpre 4 _ _ (by kernel_rfl) rfl rfl).2.2
          have r1 := (HB.out).below hF.1
          obtain ⟨A0, c0, q0, z0⟩ := r0
          obtain ⟨A1, c1, q1, z1⟩ := r1
          have f0 := e0.trans q0
          have f1 := e1.trans q1
          exact Free.c_all rfl (Vr.m_lit _ _ _ [(0, .slice A0 ((l.take k) : List Rd).length c0), (1, .slice A1 (m : List Rd).length c1)] rfl (by show [(0, a.eval (.tmp 60)), (1, a.eval (.tmp 61))] = _; rw [f0, f1]) (build_l2 wa A0 A1 _ c0 _ c1) ⟨trivial, hF.step tbk ((Below.refl _ _).alloc (Nat.le_refl _) _) (LitV.made wa [.slice A0 ((l.take k) : List Rd).length c0, .slice A1 (m : List Rd).length c1] [(l.take k), m] ⟨⟨A0, c0, rfl, z0⟩, ⟨A1, c1, rfl, z1⟩, trivial⟩ _ rfl _ rfl)⟩)
        | 6 =>
          cases hi
          have h0 : a.eval (.tmp 57) = .agg #[.int .u8 6, .int .u8 0, .int .i64 0, .int .i64 0, .slice none 0 0] := (hpre 0 _ _ (by kernel_rfl) rfl rfl).2.2
          have p1 := hpre 5 _ _ (by kernel_rfl) rfl rfl
          have e1 : a.eval (.tmp 62) = vs 5 := p1.2.1
          have r1 := hF.2 5 p1.1
          change LitV wa (vs 5) [(l.take k), m] at r1
          refine Free.c_all rfl (Free.g_call _ _ rfl Try.func14 (by kernel_rfl) rfl [.agg #[.int .u8 6, .int .u8 0, .int .i64 0, .int .i64 0, .slice none 0 0], vs 5] (by show [a.eval (.tmp 57), a.eval (.tmp 62)] = _; rw [h0, e1]) ?_)
          exact (HR3.out _ _ r1).mono fun e w2 ⟨⟨v9, he, hr9⟩, hb9⟩ => ⟨_, he, trivial, hF.step tbk hb9 ⟨v9, rfl, hr9⟩⟩
        | 7 =>
          cases hi
          have p0 := hpre 6 _ _ (by kernel_rfl) rfl rfl
          have e0 : a.eval (.tmp 63) = vs 6 := p0.2.1
          have r0 := hF.2 6 p0.1
          exact Free.c_all rfl (Free.g_move _ rfl ⟨trivial, hF.step tbk (Below.refl _ _) (by rw [e0]; exact r0)⟩)
        | 8 =>
          cases hi
          have p0 := hpre 7 _ _ (by kernel_rfl) rfl rfl
          have e0 : a.eval (.tmp 56) = vs 7 := p0.2.1
          obtain ⟨v9, e9, r9⟩ := hF.2 7 p0.1
          exact Free.c_all rfl (m_extract0 _ rfl (e0.trans e9) ⟨trivial, hF.step tbk (Below.refl _ _) r9⟩)
        | 9 =>
          cases hi
          have p0 := hpre 7 _ _ (by kernel_rfl) rfl rfl
          have e0 : a.eval (.tmp 56) = vs 7 := p0.2.1
          obtain ⟨v9, e9, r9⟩ := hF.2 7 p0.1
          exact Free.c_all rfl (m_extract1 _ rfl (e0.trans e9) ⟨rfl, hF.step tbk (Below.refl _ _) trivial⟩)
        | 10 =>
          cases hi
          have p0 := hpre 8 _ _ (by kernel_rfl) rfl rfl
          have e0 : a.eval (.tmp 64) = vs 8 := p0.2.1
          have r0 := hF.2 8 p0.1
          exact Free.c_all rfl (Free.g_assign _ rfl ⟨trivial, hF.step tbk (Below.refl _ _) (by rw [e0]; exact r0)⟩)
        | 11 =>
          cases hi
          have h0 : a.eval (.tmp 65) = .int .i64 0 := (hpre 9 _ _ (by kernel_rfl) rfl rfl).2.2
          exact Free.c_all rfl (Free.g_assign _ rfl ⟨h0, hF.step tbk (Below.refl _ _) trivial⟩)
        | _ + 12 => cases hi
      · intro vs we hv hF
        have f11 : vs 11 = .int .i64 0 := hv 11 (by simp) (by rintro o ⟨⟩; rfl)
        have k10 := hF.2 10 rfl
        change RowV we (vs 10) P at k10
        have HWE := Lib.hid hF.1; clear hF hv tbk
        simp only [Free.puts, Nat.reduceAdd, f11]
        clear f11
        generalize vs 0 = y0 at *
        generalize vs 1 = y1 at *
        generalize vs 2 = y2 at *
        generalize vs 3 = y3 at *
        generalize vs 4 = y4 at *
        generalize vs 5 = y5 at *
        generalize vs 6 = y6 at *
        generalize vs 7 = y7 at *
        generalize vs 8 = y8 at *
        generalize vs 9 = y9 at *
        generalize vs 10 = y10 at *
        obtain ⟨Ap, cp, rfl, zp⟩ := k10
        have Hp := Lib.hid (show RowV we (.slice Ap (P : List Rd).length cp) P from ⟨Ap, cp, rfl, zp⟩); clear zp
        go_simp
        have h := HA.out.below HWE.out; clear HA; have HA := Lib.hid h; clear h
        have h := HB.out.below HWE.out; clear HB; have HB := Lib.hid h; clear h
        have h := HNB.out.below HWE.out; clear HNB; have HNB := Lib.hid h; clear h
        have h := Hx.out.below HWE.out; clear Hx; have Hx := Lib.hid h; clear h
        have h := Hy.out.below HWE.out; clear Hy; have Hy := Lib.hid h; clear h
        have h := HRH.out.below HWE.out; clear HRH; have HRH := Lib.hid h; clear h
        have h := HRL.out.below HWE.out; clear HRL; have HRL := Lib.hid h; clear h
        have h := HBN.out.trans (HWE.out.mono HBN.out.size); clear HBN HWE; have HBN := Lib.hid h; clear h
        clear HLD
        have hld := NB.load HNB.out
        have HLD := Lib.hid hld; clear hld
        go_upto_region 8 with fail
        have tbk := tbJ8_keep A B c d k l m P Q vh vl
        refine Free.wp_key (by kernel_rfl) (by kernel_rfl) (FT _ (tbJ8 A B c d k l m P Q vh vl)) (vtJ8 A B c d k l m P Q vh vl) (fun vs => FT.start (tbJ8_end A B c d k l m P Q vh vl)) ?_ ?_
        · intro i o hi b vs a wa hold hpre hbi hF
          match i with
          | 0 =>
            cases hi
            have h0 : a.eval (.tmp 7) = .pointer (some ⟨w.heap.size, 0, none⟩) := (hold 7 (by decide)).trans rfl
            exact Free.c_all rfl (Free.g_load _ _ rfl h0 (HLD.out wa hF.1) ⟨rfl, hF.step tbk (Below.refl _ _) trivial⟩)
          | 1 =>
            cases hi
            have h0 : a.eval (.tmp 0) = .slice A l.length c := (hold 0 (by decide)).trans rfl
            exact Free.c_all rfl (Free.g_move _ rfl ⟨h0, hF.step tbk (Below.refl _ _) trivial⟩)
          | 2 =>
            cases hi
            have h0 : a.eval (.tmp 8) = .int .i64 (k : Nat) := (hold 8 (by decide)).trans rfl
            exact Free.c_all rfl (Free.g_move _ rfl ⟨h0, hF.step tbk (Below.refl _ _) trivial⟩)
          | 3 =>
            cases hi
            have h1 : a.eval (.tmp 68) = .slice A l.length c := (hpre 1 _ _ (by kernel_rfl) rfl rfl).2.2
            have h2 : a.eval (.tmp 69) = .int .i64 (k : Nat) := (hpre 2 _ _ (by kernel_rfl) rfl rfl).2.2
            exact Free.c_all rfl (m_slice _ _ _ _ _ _ _ _ _ rfl h1 (by show some (a.eval (.tmp 69)) = _; rw [h2]) rfl rfl (HSL.out wa) ⟨rfl, hF.step tbk (Below.refl _ _) trivial⟩)
          | 4 =>
            cases hi
            have h0 : a.eval (.tmp 1) = .slice B m.length d := (hold 1 (by decide)).trans rfl
            exact Free.c_all rfl (Free.g_move _ rfl ⟨h0, hF.step tbk (Below.refl _ _) trivial⟩)
          | 5 =>
            cases hi
            have e0 : a.eval (.tmp 70) = vl := (hpre 3 _ _ (by kernel_rfl) rfl rfl).2.2
            have r0 := (HRL.out).below hF.1
            have e1 : a.eval (.tmp 71) = .slice B m.length d := (hpre 4 _ _ (by kernel_rfl) rfl rfl).2.2
            have r1 := (HB.out).below hF.1
            obtain ⟨A0, c0, q0, z0⟩ := r0
            obtain ⟨A1, c1, q1, z1⟩ := r1
            have f0 := e0.trans q0
            have f1 := e1.trans q1
            exact Free.c_all rfl (Vr.m_lit _ _ _ [(0, .slice A0 ((l.drop k) : List Rd).length c0), (1, .slice A1 (m : List Rd).length c1)] rfl (by show [(0, a.eval (.tmp 70)), (1, a.eval (.tmp 71))] = _; rw [f0, f1]) (build_l2 wa A0 A1 _ c0 _ c1) ⟨trivial, hF.step tbk ((Below.refl _ _).alloc (Nat.le_refl _) _) (LitV.made wa [.slice A0 ((l.drop k) : List Rd).length c0, .slice A1 (m : List Rd).length c1] [(l.drop k), m] ⟨⟨A0, c0, rfl, z0⟩, ⟨A1, c1, rfl, z1⟩, trivial⟩ _ rfl _ rfl)⟩)
          | 6 =>
            cases hi
            have h0 : a.eval (.tmp 67) = .agg #[.int .u8 6, .int .u8 0, .int .i64 0, .int .i64 0, .slice none 0 0] := (hpre 0 _ _ (by kernel_rfl) rfl rfl).2.2
            have p1 := hpre 5 _ _ (by kernel_rfl) rfl rfl
            have e1 : a.eval (.tmp 72) = vs 5 := p1.2.1
            have r1 := hF.2 5 p1.1
            change LitV wa (vs 5) [(l.drop k), m] at r1
            refine Free.c_all rfl (Free.g_call _ _ rfl Try.func14 (by kernel_rfl) rfl [.agg #[.int .u8 6, .int .u8 0, .int .i64 0, .int .i64 0, .slice none 0 0], vs 5] (by show [a.eval (.tmp 67), a.eval (.tmp 72)] = _; rw [h0, e1]) ?_)
            exact (HR4.out _ _ r1).mono fun e w2 ⟨⟨v9, he, hr9⟩, hb9⟩ => ⟨_, he, trivial, hF.step tbk hb9 ⟨v9, rfl, hr9⟩⟩
          | 7 =>
            cases hi
            have p0 := hpre 6 _ _ (by kernel_rfl) rfl rfl
            have e0 : a.eval (.tmp 73) = vs 6 := p0.2.1
            have r0 := hF.2 6 p0.1
            exact Free.c_all rfl (Free.g_move _ rfl ⟨trivial, hF.step tbk (Below.refl _ _) (by rw [e0]; exact r0)⟩)
          | 8 =>
            cases hi
            have p0 := hpre 7 _ _ (by kernel_rfl) rfl rfl
            have e0 : a.eval (.tmp 66) = vs 7 := p0.2.1
            obtain ⟨v9, e9, r9⟩ := hF.2 7 p0.1
            exact Free.c_all rfl (m_extract0 _ rfl (e0.trans e9) ⟨trivial, hF.step tbk (Below.refl _ _) r9⟩)
          | 9 =>
            cases hi
            have p0 := hpre 7 _ _ (by kernel_rfl) rfl rfl
            have e0 : a.eval (.tmp 66) = vs 7 := p0.2.1
            obtain ⟨v9, e9, r9⟩ := hF.2 7 p0.1
            exact Free.c_all rfl (m_extract1 _ rfl (e0.trans e9) ⟨rfl, hF.step tbk (Below.refl _ _) trivial⟩)
          | 10 =>
            cases hi
            have p0 := hpre 8 _ _ (by kernel_rfl) rfl rfl
            have e0 : a.eval (.tmp 74) = vs 8 := p0.2.1
            have r0 := hF.2 8 p0.1
            exact Free.c_all rfl (Free.g_assign _ rfl ⟨trivial, hF.step tbk (Below.refl _ _) (by rw [e0]; exact r0)⟩)
          | 11 =>
            cases hi
            have h0 : a.eval (.tmp 75) = .int .i64 0 := (hpre 9 _ _ (by kernel_rfl) rfl rfl).2.2
            exact Free.c_all rfl (Free.g_assign _ rfl ⟨h0, hF.step tbk (Below.refl _ _) trivial⟩)
          | _ + 12 => cases hi
        · intro vs wf hv hF
          have f11 : vs 11 = .int .i64 0 := hv 11 (by simp) (by rintro o ⟨⟩; rfl)
          have k10 := hF.2 10 rfl
          change RowV wf (vs 10) Q at k10
          have HWE := Lib.hid hF.1; clear hF hv tbk
          simp only [Free.puts, Nat.reduceAdd, f11]
          clear f11
          generalize vs 0 = y0 at *
          generalize vs 1 = y1 at *
          generalize vs 2 = y2 at *
          generalize vs 3 = y3 at *
          generalize vs 4 = y4 at *
          generalize vs 5 = y5 at *
          generalize vs 6 = y6 at *
          generalize vs 7 = y7 at *
          generalize vs 8 = y8 at *
          generalize vs 9 = y9 at *
          generalize vs 10 = y10 at *
          obtain ⟨Aq, cq, rfl, zq⟩ := k10
          have Hq := Lib.hid (show RowV wf (.slice Aq (Q : List Rd).length cq) Q from ⟨Aq, cq, rfl, zq⟩); clear zq
          go_simp
          have h := HA.out.below HWE.out; clear HA; have HA := Lib.hid h; clear h
          have h := HB.out.below HWE.out; clear HB; have HB := Lib.hid h; clear h
          have h := HNB.out.below HWE.out; clear HNB; have HNB := Lib.hid h; clear h
          have h := Hx.out.below HWE.out; clear Hx; have Hx := Lib.hid h; clear h
          have h := Hy.out.below HWE.out; clear Hy; have Hy := Lib.hid h; clear h
          have h := HRH.out.below HWE.out; clear HRH; have HRH := Lib.hid h; clear h
          have h := HRL.out.below HWE.out; clear HRL; have HRL := Lib.hid h; clear h
          have h := Hp.out.below HWE.out; clear Hp; have Hp := Lib.hid h; clear h
          have h := HBN.out.trans (HWE.out.mono HBN.out.size); clear HBN HWE; have HBN := Lib.hid h; clear h
          clear HRH HRL HSH HSL HLD HR1 HR2 HR3 HR4
          have hcs := cells5 HNB.out
          obtain ⟨n0, n1, n2, n3, n4⟩ := hcs
          try simp only at n0 n1
          have hc := HR5.out _ _ (LitV.made wf [.slice A l.length c, .slice none 0 0] [l, ([] : List Rd)] ⟨HA.out, RowV.nil _, trivial⟩ #[.slice A l.length c, .slice none 0 0] rfl 2 rfl)
          have HC := Lib.hid hc; clear hc
          go_wp2_with fail
          refine HC.out.mono ?_; rintro e w11 ⟨⟨v, rfl, hr⟩, hb0⟩
          clear HC n0 n1 n2 n3 n4
          have hb : Below wf.heap.size wf w11 := ((Below.refl _ wf).alloc (Nat.le_refl _) _).trans (hb0.mono (by simp))
          clear hb0
          have h := HA.out.below hb; clear HA; have HA := Lib.hid h; clear h
          have h := HB.out.below hb; clear HB; have HB := Lib.hid h; clear h
          have h := HNB.out.below hb; clear HNB; have HNB := Lib.hid h; clear h
          have h := Hx.out.below hb; clear Hx; have Hx := Lib.hid h; clear h
          have h := Hy.out.below hb; clear Hy; have Hy := Lib.hid h; clear h
          have h := Hp.out.below hb; clear Hp; have Hp := Lib.hid h; clear h
          have h := Hq.out.below hb; clear Hq; have Hq := Lib.hid h; clear h
          have h := HBN.out.trans (hb.mono HBN.out.size); clear HBN hb; have HBN := Lib.hid h; clear h
          obtain ⟨An, cn, rfl, zn⟩ := hr
          have Hn := Lib.hid (show RowV w11 (.slice An (([] : List Rd) : List Rd).length cn) ([] : List Rd) from ⟨An, cn, rfl, zn⟩); clear zn
          dsimp only
          have h := HBN.out; clear HBN; have Hb := Lib.hid h; clear h HR5
          clear HNB
          have hc := alike_v Hx.out Hy.out (by omega) (by omega)
          rw [sameR_self] at hc
          have HC := Lib.hid hc; clear hc
          go_wp2_with fail
          refine HC.out.mono ?_; rintro e w12 ⟨rfl, hb0⟩
          clear HC
          have hb := hb0
          clear hb0
          have h := HA.out.below hb; clear HA; have HA := Lib.hid h; clear h
          have h := HB.out.below hb; clear HB; have HB := Lib.hid h; clear h
          have h := Hx.out.below hb; clear Hx; have Hx := Lib.hid h; clear h
          have h := Hy.out.below hb; clear Hy; have Hy := Lib.hid h; clear h
          have h := Hp.out.below hb; clear Hp; have Hp := Lib.hid h; clear h
          have h := Hq.out.below hb; clear Hq; have Hq := Lib.hid h; clear h
          have h := Hn.out.below hb; clear Hn; have Hn := Lib.hid h; clear h
          have h := Hb.out.trans (hb.mono Hb.out.size); clear Hb hb; have Hb := Lib.hid h; clear h
          dsimp only
          have hc := HADD.out _ _ (LitV.made w12 [.slice Ap P.length cp, .slice Aq Q.length cq] [P, Q] ⟨Hp.out, Hq.out, trivial⟩ #[.slice Ap P.length cp, .slice Aq Q.length cq] rfl 2 rfl)
          have HC := Lib.hid hc; clear hc
          go_wp2_with fail
          refine HC.out.mono ?_; rintro e w13 ⟨⟨v, rfl, hr⟩, hb0⟩
          clear HC
          have hb : Below w12.heap.size w12 w13 := ((Below.refl _ w12).alloc (Nat.le_refl _) _).trans (hb0.mono (by simp))
          clear hb0
          have h := HA.out.below hb; clear HA; have HA := Lib.hid h; clear h
          have h := HB.out.below hb; clear HB; have HB := Lib.hid h; clear h
          have h := Hx.out.below hb; clear Hx; have Hx := Lib.hid h; clear h
          have h := Hy.out.below hb; clear Hy; have Hy := Lib.hid h; clear h
          have h := Hp.out.below hb; clear Hp; have Hp := Lib.hid h; clear h
          have h := Hq.out.below hb; clear Hq; have Hq := Lib.hid h; clear h
          have h := Hn.out.below hb; clear Hn; have Hn := Lib.hid h; clear h
          have h := Hb.out.trans (hb.mono Hb.out.size); clear Hb hb; have Hb := Lib.hid h; clear h
          obtain ⟨As, cs, rfl, zs⟩ := hr
          have Hs := Lib.hid (show RowV w13 (.slice As (X : List Rd).length cs) X from ⟨As, cs, rfl, zs⟩); clear zs
          dsimp only
          have hc := alike_v Hx.out Hs.out (by omega) (by omega)
          rw [sameR_self] at hc
          have HC := Lib.hid hc; clear hc
          go_wp2_with fail
          refine HC.out.mono ?_; rintro e w14 ⟨rfl, hb0⟩
          clear HC
          have hb := hb0
          clear hb0
          have h := HA.out.below hb; clear HA; have HA := Lib.hid h; clear h
          have h := HB.out.below hb; clear HB; have HB := Lib.hid h; clear h
          have h := Hx.out.below hb; clear Hx; have Hx := Lib.hid h; clear h
          have h := Hy.out.below hb; clear Hy; have Hy := Lib.hid h; clear h
          have h := Hp.out.below hb; clear Hp; have Hp := Lib.hid h; clear h
          have h := Hq.out.below hb; clear Hq; have Hq := Lib.hid h; clear h
          have h := Hn.out.below hb; clear Hn; have Hn := Lib.hid h; clear h
          have h := Hs.out.below hb; clear Hs; have Hs := Lib.hid h; clear h
          have h := Hb.out.trans (hb.mono Hb.out.size); clear Hb hb; have Hb := Lib.hid h; clear h
          dsimp only
          obtain ⟨A1', c1', e1', hTX, _⟩ := Hx.out
          injection e1' with e1 e2 e3
          subst e1 e3
          clear e2
          obtain ⟨A2', c2', e2', hTL, _⟩ := HA.out
          injection e2' with e1 e2 e3
          subst e1 e3
          clear e2
          obtain ⟨A3', c3', e3', hTM, _⟩ := HB.out
          injection e3' with e1 e2 e3
          subst e1 e3
          clear e2
          have HTX := Lib.hid hTX; have HTL := Lib.hid hTL; have HTM := Lib.hid hTM
          clear hTX hTL hTM HA HB Hx Hy Hp Hq Hn Hs HADD s0 s1 s2 s3 s4
          go_wp2_with fail
          go_loopw [19] (fun vi wr => ∃ i : Nat, i ≤ X.length ∧ vi = .int .i64 i ∧ Below w14.heap.size w14 wr) (fun vi _ => X.length - (intOf vi).toNat)
          case atStart => exact ⟨0, by omega, rfl, Below.refl _ _⟩
          case round =>
            obtain ⟨i, hi, rfl, hb0⟩ := hrel
            have HB1 := Lib.hid hb0; clear hb0
            by_cases hlt : i < X.length
            · have hltz : (i : Int) < (X.length : Int) := by omega
              obtain ⟨x, hx⟩ : ∃ x, X[i]? = some x := ⟨_, List.getElem?_eq_getElem hlt⟩
              obtain ⟨bx, ox, rfl, hbx, hqx⟩ := recs_at HTX.out hx
              have hk := HKEY.out x (List.mem_of_getElem? hx)
              obtain ⟨kx, xv⟩ := x
              try simp only at hk hqx
              have HKL := Lib.hid (hasK_all hk.1); have HKM := Lib.hid (hasK_all hk.2); have HQX := Lib.hid hqx
              clear hk hx hqx
              go_wp2_with fail
              go_loopw [20, 22] (fun vb vj wy => ∃ j : Nat, j ≤ l.length ∧ vj = .int .i64 j ∧ vb = .bool (hasK (l.take j) kx) ∧ Below w14.heap.size w14 wy) (fun _ vj _ => l.length - (intOf vj).toNat)
              case atStart => exact ⟨0, by omega, rfl, rfl, HB1.out⟩
              case round =>
                obtain ⟨j, hj, rfl, rfl, hb0⟩ := hrel
                have HB2 := Lib.hid hb0; clear hb0 HB1
                by_cases hjt : j < l.length
                · have hjz : (j : Int) < (l.length : Int) := by omega
                  obtain ⟨y, hy⟩ : ∃ y, l[j]? = some y := ⟨_, List.getElem?_eq_getElem hjt⟩
                  obtain ⟨bl, ol, rfl, hbl, hql⟩ := recs_at HTL.out hy
                  obtain ⟨e0, e1⟩ := hql wr HB2.out
                  obtain ⟨c0, c1⟩ := HQX.out wr HB2.out
                  have hst := hasK_step (k := kx) hy
                  clear hql hy
                  obtain ⟨q, hq⟩ : ∃ q, hasK (l.take (j + 1)) kx = q := ⟨_, rfl⟩
                  by_cases hz : hasK (l.take j) kx = true
                  · rw [hz, Bool.true_or] at hst
                    rw [hz]
                    have HST := Lib.hid hst; clear hst hz hq
                    go_upto_region 19 with fail
                    go_quiet (fail)
                    go_wp2_with fail
                    go_roundw
                    case rel => exact ⟨j + 1, by omega, by simp, by rw [HST.out], below_drewN HB2.out _⟩
                    case measure => simp only [intOf]; omega
                  · have hz := Bool.eq_false_iff.2 hz
                    rw [hz, Bool.false_or] at hst
                    rw [hz]
                    have HST := Lib.hid hst; clear hst hz hq
                    go_upto_region 19 with fail
                    go_quiet (fail)
                    go_wp2_with fail
                    go_roundw
                    case rel => exact ⟨j + 1, by omega, by simp, by rw [HST.out], below_drewN HB2.out _⟩
                    case measure => simp only [intOf]; omega
                · have hjl : j = l.length := by omega
                  subst hjl
                  rw [HKL.out]
                  go_wp2_with fail
                  go_loopw [21, 23] (fun vb vj wy => ∃ j : Nat, j ≤ m.length ∧ vj = .int .i64 j ∧ vb = .bool (hasK (m.take j) kx) ∧ Below w14.heap.size w14 wy) (fun _ vj _ => m.length - (intOf vj).toNat)
                  case atStart => exact ⟨0, by omega, rfl, rfl, HB2.out⟩
                  case round =>
                    obtain ⟨j, hj, rfl, rfl, hb0⟩ := hrel
                    have HB3 := Lib.hid hb0; clear hb0 HB2
                    by_cases hjt : j < m.length
                    · have hjz : (j : Int) < (m.length : Int) := by omega
                      obtain ⟨y, hy⟩ : ∃ y, m[j]? = some y := ⟨_, List.getElem?_eq_getElem hjt⟩
                      obtain ⟨bl, ol, rfl, hbl, hql⟩ := recs_at HTM.out hy
                      obtain ⟨e0, e1⟩ := hql wr HB3.out
                      obtain ⟨c0, c1⟩ := HQX.out wr HB3.out
                      have hst := hasK_step (k := kx) hy
                      clear hql hy
                      obtain ⟨q, hq⟩ : ∃ q, hasK (m.take (j + 1)) kx = q := ⟨_, rfl⟩
                      by_cases hz : hasK (m.take j) kx = true
                      · rw [hz, Bool.true_or] at hst
                        rw [hz]
                        have HST := Lib.hid hst; clear hst hz hq
                        go_upto_region 23 with fail
                        go_quiet (fail)
                        go_wp2_with fail
                        go_roundw
                        case rel => exact ⟨j + 1, by omega, by simp, by rw [HST.out], below_drewN HB3.out _⟩
                        case measure => simp only [intOf]; omega
                      · have hz := Bool.eq_false_iff.2 hz
                        rw [hz, Bool.false_or] at hst
                        rw [hz]
                        have HST := Lib.hid hst; clear hst hz hq
                        go_upto_region 23 with fail
                        go_quiet (fail)
                        go_wp2_with fail
                        go_roundw
                        case rel => exact ⟨j + 1, by omega, by simp, by rw [HST.out], below_drewN HB3.out _⟩
                        case measure => simp only [intOf]; omega
                    · have hjl : j = m.length := by omega
                      subst hjl
                      rw [HKM.out]
                      go_wp2_with fail
                      go_roundw
                      case rel => exact ⟨i + 1, by omega, by simp, HB3.out⟩
                      case measure => simp only [intOf]; omega
            · have hil : i = X.length := by omega
              subst hil
              go_wp2_with fail
              refine (works_any _).mono ?_; rintro e w9 ⟨rfl, hb9⟩
              have HB9 := Lib.hid (HB1.out.trans (hb9.mono HB1.out.size)); clear hb9
              dsimp only
              go_wp2_with fail
              go_ret
              exact ⟨rfl, Hb.out.trans (HB9.out.mono Hb.out.size)⟩

set_option maxRecDepth 100000 in
theorem lifted (os : Os) (started : os.Started) (H : Type) (enc : TypeId × Value → H) :
    ReturnsInHanded {} Try.checked os 10 .any (Rows.opersJoinsSpec.pre6 enc Try.prog Try.f10 Rows.opersJoinsRow.domain false) (Rows.opersJoinsSpec.post enc Try.prog Try.f10 false true false false) := by
  refine returnsInHanded_of_change_sized (C := Try.checked) ownKnob_none started (by kernel_rfl) Try.func10
    (ChangeSpec.witness6 (enc := enc) (C := Try.checked) false ⟨#[], #[.slice none 0 0, .slice none 0 0, .int .u8 0], []⟩ 8 (by kernel_rfl) (by kernel_rfl) (by kernel_rfl) (by kernel_rfl)) ?_
  intro W base args ds gs before hval0 hW hcnd hsz0 _
  have hval : ∀ (j : Nat) t v, Try.f10.params[j]? = some t → args[j]? = some v → Value.okWide Try.prog W .any base t v := hval0
  have hW' := hW
  obtain ⟨p, q, hA0, hV, rfl, hfz, hnd⟩ := hW
  have hA : DataW.TrodAll enc Try.prog W 0 (fun _ => true) true Try.f10.params.toList args.toList ds p := hA0
  have hsz : (DataW.weightsEach Try.prog (Try.f10.params.toList ++ Rows.opersJoinsSpec.plain.varTypes Try.prog) (ds ++ gs)).all (· ≤ reachBytes) = true := hsz0
  rw [Try.params10] at hA hval hsz
  obtain ⟨v0, vs0, d0, ds0, p0, q0, hargs, rfl, rfl, h0, r0⟩ := trodAll_cons hA
  obtain ⟨v1, vs1, d1, ds1, p1, q1, rfl, rfl, rfl, h1, r1⟩ := trodAll_cons r0
  obtain ⟨v2, vs2, d2, ds2, p2, q2, rfl, rfl, rfl, h2, r2⟩ := trodAll_cons r1
  obtain ⟨rfl, rfl, rfl⟩ := trodAll_nil r2
  obtain rfl : args = #[v0, v1, v2] := by cases args; simp_all
  obtain ⟨rfl, rfl⟩ := trodVars_none hV
  obtain ⟨A0, l0, c0, rfl, hT0, hw0, hc0, hm0, hn0⟩ := Vr.open_recs (hval 0 28 v0 rfl rfl) h0
  obtain ⟨A1, l1, c1, rfl, hT1, hw1, hc1, hm1, hn1⟩ := Vr.open_recs (hval 1 28 v1 rfl rfl) h1
  obtain ⟨a2, rfl, rfl, rfl, w2⟩ := open_int Try.underlying5 (hval 2 5 v2 rfl rfl) h2
  have b2 := u8_wf w2
  obtain ⟨n2, rfl⟩ := Int.eq_ofNat_of_zero_le b2.1
  clear hA0 hval0 hsz0
  refine (walk A0 A1 l0 l1 c0 c1 n2 (by have := b2; omega) W ⟨A0, c0, rfl, hT0, hn0, hc0, hm0⟩ ⟨A1, c1, rfl, hT1, hn1, hc1, hm1⟩ hw0 hw1).mono fun e W' ⟨he, hg⟩ => ?_
  subst he
  exact ⟨_, rfl, law_post progLaid hW' rfl (by rw [Try.params10]; intro t ht; simp at ht; rcases ht with rfl | rfl <;> exact ⟨by kernel_rfl, of_decide_eq_true (by kernel_rfl)⟩) rfl Try.underlying4 rfl hg⟩

theorem over : Rows.opersJoinsRow.holds Try.pinned (OpenSpec.ofChange Rows.opersJoinsSpec) :=
  OpenClaim.holds_of_wide 10 Try.f10 rfl rfl rfl rfl rfl rfl rfl ⟨rfl, rfl, rfl, rfl, rfl⟩ rfl rfl rfl rfl rfl (by kernel_rfl) Try.func10 (by kernel_rfl)
    (of_decide_eq_true (by kernel_rfl)) (by unfold Func.isWrapper; first | (rw [if_pos (by decide +kernel)]; kernel_rfl) | (rw [if_neg (by decide +kernel)]; exact ⟨rfl, rfl⟩))
    (fun os started H enc _ => lifted os started H enc)

/-- The statement. -/
theorem proved : Rows.OpersJoinsSaid :=
  over
end opersJoins
end Go.Proofs.Ytkhmefbmffpkcaa
