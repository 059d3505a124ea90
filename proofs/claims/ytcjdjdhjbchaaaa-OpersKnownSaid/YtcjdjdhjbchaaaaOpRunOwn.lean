/- Run, the program's: the answer is a row of the call's own. -/
import Derived.Test.YtcjdjdhjbchaaaaCa20
namespace Go.Proofs.Ytcjdjdhjbchaaaa
namespace Op
open Go.ChangeShapes Go.WideShapes Go.ChangeAt Go.RowKit Go.BigFrame Go.Shelf Vr
set_option linter.unusedVariables false
set_option maxRecDepth 100000
/-- what Run answers, of its own -/
def GivesO (l : List Rd) (er : Int) (w : World) (e : Ending) (w' : World) : Prop := (∃ v', e = .returned (.tuple #[v', .int .i64 er]) ∧ w'.ownsRow w.heap.size 36 kindR.K v' l.length (Rw.row kindR l)) ∧ Below w.heap.size w w'
theorem own_mono {w : World} {base base' : Nat} {T : TypeId} {K : Nat} {v : Value} {n : Nat} {xs : List Value} (h : w.ownsRow base T K v n xs) (hb : base' ≤ base) : w.ownsRow base' T K v n xs := ⟨h.1, h.2.imp id fun ⟨g, cap, cur, e, hg, r⟩ => ⟨g, cap, cur, e, Nat.le_trans hb hg, r⟩⟩
theorem sorted_own {w : World} {v : Value} {l : List Rd} (h : RowV w v l) (hl : l.length ≤ 100000) : Calls Try.prog 31 #[v] w (AddD (sortR l) w) := by
  obtain ⟨A, c, rfl, hT, hn, _⟩ := h
  exact sorted_any A l c w hT hn (by omega)
set_option maxHeartbeats 1000000 in
theorem run_own {w : World} {v : Value} {ls : List (List Rd)} (n : Nd) (NA : Option Addr) (nm nc : Nat) (hI : InV w v ls) (hk : n.k < 256) (ha : n.a < 256) (hb : -9223372036854775808 ≤ n.b ∧ n.b ≤ 9223372036854775807) (hd : -9223372036854775808 ≤ n.d ∧ n.d ≤ 9223372036854775807)
    (hr : ls.length ≤ 40) (hW : ∀ l ∈ ls, ∀ r ∈ l, r.W) (hl : ∀ l ∈ ls, l.length ≤ 200) :
    Calls Try.prog 14 #[nodeV n NA nm nc, v] w (GivesO (runR n ls) (errR n ls.length) w) := by
  obtain ⟨nk, na, nb, ndp, nins⟩ := n
  simp only at hk ha hb hd
  have hbx := node_box w ⟨nk, na, nb, ndp, nins⟩ NA nm nc
  have hb1 := (Below.refl _ w).alloc (Nat.le_refl _) (.cells #[.int .u8 (nk : Nat), .int .u8 (na : Nat), .int .i64 nb, .int .i64 ndp, .slice NA nm nc] 24)
  simp only at hbx
  have HC := Lib.hid fun w' => opFault_any nk na nb ndp NA nm nc ls.length nins w' hk ha hb hd hr
  have hI0 := hI
  obtain ⟨IA, ic, L, rfl, hL0⟩ := hI0
  clear hL0 L
  have HB1 := Lib.hid hb1; have HBX := Lib.hid hbx; have HI := Lib.hid hI
  clear hb1 hbx hI
  rcases errR_cases ⟨nk, na, nb, ndp, nins⟩ ls.length with ⟨he, _⟩ | ⟨he, _⟩ | ⟨he, hnum, hwant⟩
  · have hrr : runR ⟨nk, na, nb, ndp, nins⟩ ls = [] := by unfold runR; rw [he]; rfl
    rw [hrr]
    rw [he] at HC ⊢
    clear hrr he
    go_enter Try.func14, Try.ntmps14
    go_wp2_with fail
    refine (HC.out _).mono ?_; rintro e w2 ⟨rfl, hb2⟩
    have HB2 := Lib.hid (HB1.out.trans (hb2.mono HB1.out.size)); clear hb2
    dsimp only
    go_wp2_with fail
    go_ret2
    exact ⟨⟨_, rfl, World.ownsRow_nil _ _ _ _⟩, HB2.out⟩
  · have hrr : runR ⟨nk, na, nb, ndp, nins⟩ ls = [] := by unfold runR; rw [he]; rfl
    rw [hrr]
    rw [he] at HC ⊢
    clear hrr he
    go_enter Try.func14, Try.ntmps14
    go_wp2_with fail
    refine (HC.out _).mono ?_; rintro e w2 ⟨rfl, hb2⟩
    have HB2 := Lib.hid (HB1.out.trans (hb2.mono HB1.out.size)); clear hb2
    dsimp only
    go_wp2_with fail
    go_ret2
    exact ⟨⟨_, rfl, World.ownsRow_nil _ _ _ _⟩, HB2.out⟩
  · have hrr : runR ⟨nk, na, nb, ndp, nins⟩ ls = sortR (makesR ⟨nk, na, nb, ndp, nins⟩ ls) := by unfold runR; rw [he]; rfl
    rw [hrr]
    rw [he] at HC ⊢
    have hkk : 1 ≤ nk ∧ nk ≤ 10 := num_kind (n := ⟨nk, na, nb, ndp, nins⟩) hnum
    have hdoes := fun w' (hb' : Below w.heap.size w w') => does_v (w := w') ⟨nk, na, nb, ndp, nins⟩ NA nm nc (HI.out.below hb') hnum hwant hW hl hb.2
    have hml : (makesR ⟨nk, na, nb, ndp, nins⟩ ls).length ≤ 100000 := makes_len hwant hl
    have HD := Lib.hid hdoes; have HML := Lib.hid hml
    have HF := Lib.hid (does_func nk)
    clear hrr he hdoes hml hW hl hnum hwant
    go_enter Try.func14, Try.ntmps14
    go_wp2_with fail
    refine (HC.out _).mono ?_; rintro e w2 ⟨rfl, hb2⟩
    have hbox := HBX.out.below hb2 HBX.out.lt
    have HB2 := Lib.hid (HB1.out.trans (hb2.mono HB1.out.size)); have HBOX := Lib.hid hbox; clear hb2 hbox HB1 HBX
    dsimp only
    go_upto_region 4 with fail
    refine Free.wp_key (by kernel_rfl) (by kernel_rfl) (FR w2) (vtR w.heap.size nk) (fun vs => ⟨(Below.refl _ _).drew, by simp⟩) ?_ ?_
    · intro i o hi b vs a wa hold hpre hbi hF
      match i with
      | 0 =>
        cases hi
        refine Free.c_all rfl (Free.g_call _ _ rfl Try.func30 (by kernel_rfl) rfl [] (by rfl) ?_)
        exact (kinds_any wa).mono fun e w5 ⟨⟨m, he, ho⟩, hb5⟩ => ⟨_, he, trivial, hF.1.trans (hb5.mono hF.1.size), fun _ => ⟨m, Free.updw_self, ho⟩⟩
      | 1 =>
        cases hi
        have h0 : a.eval (.tmp 2) = .pointer (some ⟨w.heap.size, 0, none⟩) := (hold 2 (by decide)).trans rfl
        exact Free.c_all rfl (Free.g_field (v := .pointer (some ⟨w.heap.size, 0, none⟩)) _ _ _ rfl h0 (by go_simp) ⟨rfl, hF.step (by decide)⟩)
      | 2 =>
        cases hi
        have h0 : a.eval (.tmp 16) = .pointer (some ⟨w.heap.size, 0, none⟩) := (hpre 1 _ _ (by kernel_rfl) rfl rfl).2.2
        have hc := (HBOX.out.below hF.1 HBOX.out.lt).cell 0
        simp only [List.getElem?_cons_zero] at hc
        exact Free.c_all rfl (Free.g_load (v := .int .u8 (nk : Nat)) _ _ rfl h0 (by go_simp) ⟨rfl, hF.step (by decide)⟩)
      | 3 =>
        cases hi
        have h0 := hpre 0 _ _ (by kernel_rfl) rfl rfl
        have h1 : a.eval (.tmp 17) = .int .u8 (nk : Nat) := (hpre 2 _ _ (by kernel_rfl) rfl rfl).2.2
        obtain ⟨m, hm, ho⟩ := hF.2 h0.1
        exact Free.c_all rfl (m_lookup _ _ _ _ rfl _ _ (h0.2.1.trans hm) h1 (look_kind ho hkk.1 hkk.2) ⟨rfl, hF.step (by decide)⟩)
      | 4 =>
        cases hi
        have h0 : a.eval (.tmp 18) = fnV (doesF nk) := (hpre 3 _ _ (by kernel_rfl) rfl rfl).2.2
        exact Free.c_all rfl (Free.g_assign _ rfl ⟨h0, hF.step (by decide)⟩)
      | _ + 5 => cases hi
    · intro vs we hv hF
      have hlast : vs 4 = fnV (doesF nk) := hv 4 (by simp) (by rintro o ⟨⟩; rfl)
      have hbe := HB2.out.trans (hF.1.mono HB2.out.size)
      have hboxe := HBOX.out.below hF.1 HBOX.out.lt
      have hld := load_node (n := ⟨nk, na, nb, ndp, nins⟩) hboxe
      obtain ⟨m0, m1, m2, m3, m4⟩ := cells5 hboxe
      have hdo := HD.out we hbe
      have HDO := Lib.hid hdo; have HBE := Lib.hid hbe
      clear hF hv hdo hbe hboxe HB2 HBOX HD HC hld
      simp only [Free.puts, Nat.reduceAdd, hlast]
      generalize vs 0 = y0; generalize vs 1 = y1; generalize vs 2 = y2; generalize vs 3 = y3
      clear hlast
      generalize doesF nk = DF at *
      have hff := HF.out
      go_simp
      go_wp2_with fail
      refine HDO.out.mono ?_; rintro e w5 ⟨⟨v5, l5, rfl, hp, hr5⟩, hb5⟩
      have hs := sortR_iff.2 hp
      have hsv := sorted_own hr5 (by rw [hp.length_eq]; exact HML.out)
      rw [hs] at hsv
      have HSV := Lib.hid hsv; have HB5 := Lib.hid (HBE.out.trans (hb5.mono HBE.out.size))
      obtain ⟨A5, c5, rfl, _⟩ := hr5
      clear hs hsv hp hb5 hff m0 m1 m2 m3 m4 HDO
      dsimp only
      go_wp2_with fail
      refine HSV.out.mono ?_; rintro e w6 ⟨⟨v6, rfl, hr6⟩, hb6⟩
      have HR6 := Lib.hid (own_mono hr6 HB5.out.size); have HB6 := Lib.hid (HB5.out.trans (hb6.mono HB5.out.size)); clear hr6 hb6
      dsimp only
      go_wp2_with fail
      go_ret2
      exact ⟨⟨_, rfl, HR6.out⟩, HB6.out⟩
end Op
end Go.Proofs.Ytcjdjdhjbchaaaa
