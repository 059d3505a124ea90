/- AntichainLattice: Both and Either in whatever order, absorbing each other, each through the other; for all rows of at most 8 times. -/
import Derived.Test.YtpcpjnebdhiddaaFrLawOrder
namespace Go.Proofs.Ytpcpjnebdhiddaa
open Go.ChangeShapes Go.WideShapes Go.ChangeAt Go.RowKit Go.BigFrame Go.Shelf
set_option linter.unusedVariables false
namespace antichainLattice
open antichainOrder (mul_le good)
theorem bothY {w : World} {A B : Option Addr} {a b : List St} {c d : Nat} (he : Alike a b) (h : Slc w A c a) (k : Slc w B d b) (ha : a.length ≤ 500) (hb : b.length ≤ 500) : Calls Try.prog 20 #[.slice A a.length c, .slice B b.length d] w (GivesS w (bothS a b) 0) := by
  have := bothC h k ha hb
  rw [decide_eq_true he] at this; exact this
theorem eitherY {w : World} {A B : Option Addr} {a b : List St} {c d : Nat} (he : Alike a b) (h : Slc w A c a) (k : Slc w B d b) (ha : a.length ≤ 1000) (hb : b.length ≤ 1000) (hab : a.length * b.length ≤ 1000) : Calls Try.prog 22 #[.slice A a.length c, .slice B b.length d] w (GivesS w (eitherS a b) 0) := by
  have := eitherC h k ha hb hab
  rw [decide_eq_true he] at this; exact this
theorem both_len {a b : List St} {m n k : Nat} (h : a.length ≤ m) (j : b.length ≤ n) (hk : m + n ≤ k) : (bothS a b).length ≤ k := by
  have := ofS_len (a ++ b); rw [List.length_append] at this; unfold bothS; omega
theorem either_len {a b : List St} {m n k : Nat} (h : a.length ≤ m) (j : b.length ≤ n) (hk : m * n ≤ k) : (eitherS a b).length ≤ k := by
  have := ofS_len (pairsS a b); rw [pairs_len] at this; have := mul_le h j hk; unfold eitherS; omega
set_option maxRecDepth 100000 in
set_option maxHeartbeats 32000000 in
theorem walk (A B C : Option Addr) (a b c : List St) (ca cb cc : Nat) (w : World) (hA : Slc w A ca a) (hB : Slc w B cb b) (hC : Slc w C cc c) :
    Calls Try.prog 7 #[.slice A a.length ca, .slice B b.length cb, .slice C c.length cc] w fun e w' => e = .returned (.bool true) ∧ Below w.heap.size w w' := by
  have hbt := Below.refl w.heap.size w
  have WW := Lib.hid works_any
  have Ha := Lib.hid hA; have Hb := Lib.hid hB; have Hc := Lib.hid hC; have HBW := Lib.hid hbt
  clear hA hB hC hbt
  by_cases la : 8 < a.length
  · have da : decide ((a.length : Int) > 8) = true := decide_eq_true (by omega)
    go_enter Try.func7, Try.ntmps7
    go_wp2_with fail
    refine (WW.out _).mono ?_; rintro e we ⟨rfl, hbe⟩
    go_wp2_with fail
    go_ret
    exact ⟨rfl, HBW.out.trans (hbe.mono HBW.out.size)⟩
  have da : decide ((a.length : Int) > 8) = false := decide_eq_false (by omega)
  by_cases lb : 8 < b.length
  · have db : decide ((b.length : Int) > 8) = true := decide_eq_true (by omega)
    go_enter Try.func7, Try.ntmps7
    go_wp2_with fail
    refine (WW.out _).mono ?_; rintro e we ⟨rfl, hbe⟩
    go_wp2_with fail
    go_ret
    exact ⟨rfl, HBW.out.trans (hbe.mono HBW.out.size)⟩
  have db : decide ((b.length : Int) > 8) = false := decide_eq_false (by omega)
  by_cases lc : 8 < c.length
  · have dc : decide ((c.length : Int) > 8) = true := decide_eq_true (by omega)
    go_enter Try.func7, Try.ntmps7
    go_wp2_with fail
    refine (WW.out _).mono ?_; rintro e we ⟨rfl, hbe⟩
    go_wp2_with fail
    go_ret
    exact ⟨rfl, HBW.out.trans (hbe.mono HBW.out.size)⟩
  have dc : decide ((c.length : Int) > 8) = false := decide_eq_false (by omega)
  have LN := Lib.hid (And.intro (Nat.not_lt.1 la) (And.intro (Nat.not_lt.1 lb) (Nat.not_lt.1 lc)))
  go_enter Try.func7, Try.ntmps7
  go_wp2_with fail
  clear la lb lc da db dc
  have k := ofC Ha.out (by have := LN.out; omega)
  obtain ⟨x, hp⟩ : ∃ p, ifS (decide (Even a)) (ofS a) = p := ⟨_, rfl⟩
  obtain ⟨ex, hep⟩ : ∃ n, errS (decide (Even a)) = n := ⟨_, rfl⟩
  rw [hp, hep] at k
  have Lx := Lib.hid (show x.length ≤ 8 by rw [← hp]; exact ifS_len (by have := ofS_len a; have := LN.out; omega))
  have Ex := Lib.hid (And.intro hp hep); have K := Lib.hid k; clear k hp hep
  refine (K.out).mono ?_; rintro e v1 ⟨⟨Ax, cx, rfl, hs⟩, hb⟩
  have ha := Ha.out.below hb; clear Ha; have Ha := Lib.hid ha; clear ha
  have hb := Hb.out.below hb; clear Hb; have Hb := Lib.hid hb; clear hb
  have hc := Hc.out.below hb; clear Hc; have Hc := Lib.hid hc; clear hc
  have hbw := HBW.out.trans (hb.mono HBW.out.size); clear HBW hb; have HBW := Lib.hid hbw; clear hbw
  have Hx := Lib.hid hs; clear hs K
  dsimp only
  go_wp2_with fail
  have k := ofC Hb.out (by have := LN.out; omega)
  obtain ⟨y, hp⟩ : ∃ p, ifS (decide (Even b)) (ofS b) = p := ⟨_, rfl⟩
  obtain ⟨ey, hep⟩ : ∃ n, errS (decide (Even b)) = n := ⟨_, rfl⟩
  rw [hp, hep] at k
  have Ly := Lib.hid (show y.length ≤ 8 by rw [← hp]; exact ifS_len (by have := ofS_len b; have := LN.out; omega))
  have Ey := Lib.hid (And.intro hp hep); have K := Lib.hid k; clear k hp hep
  refine (K.out).mono ?_; rintro e v2 ⟨⟨Ay, cy, rfl, hs⟩, hb⟩
  have ha := Ha.out.below hb; clear Ha; have Ha := Lib.hid ha; clear ha
  have hb := Hb.out.below hb; clear Hb; have Hb := Lib.hid hb; clear hb
  have hc := Hc.out.below hb; clear Hc; have Hc := Lib.hid hc; clear hc
  have hx := Hx.out.below hb; clear Hx; have Hx := Lib.hid hx; clear hx
  have hbw := HBW.out.trans (hb.mono HBW.out.size); clear HBW hb; have HBW := Lib.hid hbw; clear hbw
  have Hy := Lib.hid hs; clear hs K
  dsimp only
  go_wp2_with fail
  have k := ofC Hc.out (by have := LN.out; omega)
  obtain ⟨z, hp⟩ : ∃ p, ifS (decide (Even c)) (ofS c) = p := ⟨_, rfl⟩
  obtain ⟨ez, hep⟩ : ∃ n, errS (decide (Even c)) = n := ⟨_, rfl⟩
  rw [hp, hep] at k
  have Lz := Lib.hid (show z.length ≤ 8 by rw [← hp]; exact ifS_len (by have := ofS_len c; have := LN.out; omega))
  have Ez := Lib.hid (And.intro hp hep); have K := Lib.hid k; clear k hp hep
  refine (K.out).mono ?_; rintro e v3 ⟨⟨Az, cz, rfl, hs⟩, hb⟩
  have ha := Ha.out.below hb; clear Ha; have Ha := Lib.hid ha; clear ha
  have hb := Hb.out.below hb; clear Hb; have Hb := Lib.hid hb; clear hb
  have hc := Hc.out.below hb; clear Hc; have Hc := Lib.hid hc; clear hc
  have hx := Hx.out.below hb; clear Hx; have Hx := Lib.hid hx; clear hx
  have hy := Hy.out.below hb; clear Hy; have Hy := Lib.hid hy; clear hy
  have hbw := HBW.out.trans (hb.mono HBW.out.size); clear HBW hb; have HBW := Lib.hid hbw; clear hbw
  have Hz := Lib.hid hs; clear hs K
  dsimp only
  go_wp2_with fail
  have k := bothC Hx.out Hy.out (by have := Lx.out; omega) (by have := Ly.out; omega)
  obtain ⟨xy, hp⟩ : ∃ p, ifS (decide (Alike x y)) (bothS x y) = p := ⟨_, rfl⟩
  obtain ⟨exy, hep⟩ : ∃ n, errS (decide (Alike x y)) = n := ⟨_, rfl⟩
  rw [hp, hep] at k
  have Lxy := Lib.hid (show xy.length ≤ 16 by rw [← hp]; exact ifS_len (both_len Lx.out Ly.out (by omega)))
  have Exy := Lib.hid (And.intro hp hep); have K := Lib.hid k; clear k hp hep
  refine (K.out).mono ?_; rintro e v4 ⟨⟨Axy, cxy, rfl, hs⟩, hb⟩
  have ha := Ha.out.below hb; clear Ha; have Ha := Lib.hid ha; clear ha
  have hb := Hb.out.below hb; clear Hb; have Hb := Lib.hid hb; clear hb
  have hc := Hc.out.below hb; clear Hc; have Hc := Lib.hid hc; clear hc
  have hx := Hx.out.below hb; clear Hx; have Hx := Lib.hid hx; clear hx
  have hy := Hy.out.below hb; clear Hy; have Hy := Lib.hid hy; clear hy
  have hz := Hz.out.below hb; clear Hz; have Hz := Lib.hid hz; clear hz
  have hbw := HBW.out.trans (hb.mono HBW.out.size); clear HBW hb; have HBW := Lib.hid hbw; clear hbw
  have Hxy := Lib.hid hs; clear hs K
  dsimp only
  go_wp2_with fail
  have k := eitherC Hy.out Hz.out (by have := Ly.out; omega) (by have := Lz.out; omega) (mul_le Ly.out Lz.out (by omega))
  obtain ⟨yz, hp⟩ : ∃ p, ifS (decide (Alike y z)) (eitherS y z) = p := ⟨_, rfl⟩
  obtain ⟨eyz, hep⟩ : ∃ n, errS (decide (Alike y z)) = n := ⟨_, rfl⟩
  rw [hp, hep] at k
  have Lyz := Lib.hid (show yz.length ≤ 64 by rw [← hp]; exact ifS_len (either_len Ly.out Lz.out (by omega)))
  have Eyz := Lib.hid (And.intro hp hep); have K := Lib.hid k; clear k hp hep
  refine (K.out).mono ?_; rintro e v5 ⟨⟨Ayz, cyz, rfl, hs⟩, hb⟩
  have ha := Ha.out.below hb; clear Ha; have Ha := Lib.hid ha; clear ha
  have hb := Hb.out.below hb; clear Hb; have Hb := Lib.hid hb; clear hb
  have hc := Hc.out.below hb; clear Hc; have Hc := Lib.hid hc; clear hc
  have hx := Hx.out.below hb; clear Hx; have Hx := Lib.hid hx; clear hx
  have hy := Hy.out.below hb; clear Hy; have Hy := Lib.hid hy; clear hy
  have hz := Hz.out.below hb; clear Hz; have Hz := Lib.hid hz; clear hz
  have hxy := Hxy.out.below hb; clear Hxy; have Hxy := Lib.hid hxy; clear hxy
  have hbw := HBW.out.trans (hb.mono HBW.out.size); clear HBW hb; have HBW := Lib.hid hbw; clear hbw
  have Hyz := Lib.hid hs; clear hs K
  dsimp only
  go_wp2_with fail
  have k := bothC Hx.out Hz.out (by have := Lx.out; omega) (by have := Lz.out; omega)
  obtain ⟨xz, hp⟩ : ∃ p, ifS (decide (Alike x z)) (bothS x z) = p := ⟨_, rfl⟩
  obtain ⟨exz, hep⟩ : ∃ n, errS (decide (Alike x z)) = n := ⟨_, rfl⟩
  rw [hp, hep] at k
  have Lxz := Lib.hid (show xz.length ≤ 16 by rw [← hp]; exact ifS_len (both_len Lx.out Lz.out (by omega)))
  have Exz := Lib.hid (And.intro hp hep); have K := Lib.hid k; clear k hp hep
  refine (K.out).mono ?_; rintro e v6 ⟨⟨Axz, cxz, rfl, hs⟩, hb⟩
  have ha := Ha.out.below hb; clear Ha; have Ha := Lib.hid ha; clear ha
  have hb := Hb.out.below hb; clear Hb; have Hb := Lib.hid hb; clear hb
  have hc := Hc.out.below hb; clear Hc; have Hc := Lib.hid hc; clear hc
  have hx := Hx.out.below hb; clear Hx; have Hx := Lib.hid hx; clear hx
  have hy := Hy.out.below hb; clear Hy; have Hy := Lib.hid hy; clear hy
  have hz := Hz.out.below hb; clear Hz; have Hz := Lib.hid hz; clear hz
  have hxy := Hxy.out.below hb; clear Hxy; have Hxy := Lib.hid hxy; clear hxy
  have hyz := Hyz.out.below hb; clear Hyz; have Hyz := Lib.hid hyz; clear hyz
  have hbw := HBW.out.trans (hb.mono HBW.out.size); clear HBW hb; have HBW := Lib.hid hbw; clear hbw
  have Hxz := Lib.hid hs; clear hs K
  dsimp only
  go_upto_region 9 with fail
  by_cases zx : ex = 0
  case neg =>
    have dx : (ex != 0) = true := by simpa using zx
    clear zx
    go_wp2_with fail
    refine (WW.out _).mono ?_; rintro e we ⟨rfl, hbe⟩
    go_wp2_with fail
    go_ret
    exact ⟨rfl, HBW.out.trans (hbe.mono HBW.out.size)⟩
  subst zx
  by_cases zy : ey = 0
  case neg =>
    have dy : (ey != 0) = true := by simpa using zy
    clear zy
    go_wp2_with fail
    refine (WW.out _).mono ?_; rintro e we ⟨rfl, hbe⟩
    go_wp2_with fail
    go_ret
    exact ⟨rfl, HBW.out.trans (hbe.mono HBW.out.size)⟩
  subst zy
  by_cases zz : ez = 0
  case neg =>
    have dz : (ez != 0) = true := by simpa using zz
    clear zz
    go_wp2_with fail
    refine (WW.out _).mono ?_; rintro e we ⟨rfl, hbe⟩
    go_wp2_with fail
    go_ret
    exact ⟨rfl, HBW.out.trans (hbe.mono HBW.out.size)⟩
  subst zz
  by_cases zxy : exy = 0
  case neg =>
    have dxy : (exy != 0) = true := by simpa using zxy
    clear zxy
    go_wp2_with fail
    refine (WW.out _).mono ?_; rintro e we ⟨rfl, hbe⟩
    go_wp2_with fail
    go_ret
    exact ⟨rfl, HBW.out.trans (hbe.mono HBW.out.size)⟩
  subst zxy
  by_cases zyz : eyz = 0
  case neg =>
    have dyz : (eyz != 0) = true := by simpa using zyz
    clear zyz
    go_wp2_with fail
    refine (WW.out _).mono ?_; rintro e we ⟨rfl, hbe⟩
    go_wp2_with fail
    go_ret
    exact ⟨rfl, HBW.out.trans (hbe.mono HBW.out.size)⟩
  subst zyz
  by_cases zxz : exz = 0
  case neg =>
    have dxz : (exz != 0) = true := by simpa using zxz
    clear zxz
    go_wp2_with fail
    refine (WW.out _).mono ?_; rintro e we ⟨rfl, hbe⟩
    go_wp2_with fail
    go_ret
    exact ⟨rfl, HBW.out.trans (hbe.mono HBW.out.size)⟩
  subst zxz
  have hp := good Exy.out; have hr := good Exz.out; have hs := good Eyz.out
  have A1 : Alike x y := of_decide_eq_true hp.1
  have A2 : Alike x z := of_decide_eq_true hr.1
  have A3 : Alike y z := of_decide_eq_true hs.1
  have AA := Lib.hid (And.intro A1 (And.intro A2 A3))
  have QQ := Lib.hid (And.intro hp.2 (And.intro hs.2 hr.2))
  clear hp hr hs A1 A2 A3 Ex Ey Ez Exy Exz Eyz LN
  go_wp2_with fail
  have k := bothY (AA.out.1.swap) Hy.out Hx.out (by have := Ly.out; omega) (by have := Lx.out; omega)
  obtain ⟨yx, hp⟩ : ∃ p, bothS y x = p := ⟨_, rfl⟩
  rw [hp] at k
  have Lyx := Lib.hid (show yx.length ≤ 16 by rw [← hp]; exact both_len Ly.out Lx.out (by omega))
  have Eyx := Lib.hid hp; have K := Lib.hid k; clear k hp
  refine (K.out).mono ?_; rintro e v7 ⟨⟨Ayx, cyx, rfl, hs⟩, hb⟩
  have hx := Hx.out.below hb; clear Hx; have Hx := Lib.hid hx; clear hx
  have hy := Hy.out.below hb; clear Hy; have Hy := Lib.hid hy; clear hy
  have hz := Hz.out.below hb; clear Hz; have Hz := Lib.hid hz; clear hz
  have hxy := Hxy.out.below hb; clear Hxy; have Hxy := Lib.hid hxy; clear hxy
  have hyz := Hyz.out.below hb; clear Hyz; have Hyz := Lib.hid hyz; clear hyz
  have hxz := Hxz.out.below hb; clear Hxz; have Hxz := Lib.hid hxz; clear hxz
  have hbw := HBW.out.trans (hb.mono HBW.out.size); clear HBW hb; have HBW := Lib.hid hbw; clear hbw
  have Hyx := Lib.hid hs; clear hs K
  dsimp only
  go_wp2_with fail
  have k := eitherY (AA.out.1) Hx.out Hy.out (by have := Lx.out; omega) (by have := Ly.out; omega) (mul_le Lx.out Ly.out (by omega))
  obtain ⟨o, hp⟩ : ∃ p, eitherS x y = p := ⟨_, rfl⟩
  rw [hp] at k
  have Lo := Lib.hid (show o.length ≤ 64 by rw [← hp]; exact either_len Lx.out Ly.out (by omega))
  have Eo := Lib.hid hp; have K := Lib.hid k; clear k hp
  refine (K.out).mono ?_; rintro e v8 ⟨⟨Ao, co, rfl, hs⟩, hb⟩
  have hx := Hx.out.below hb; clear Hx; have Hx := Lib.hid hx; clear hx
  have hy := Hy.out.below hb; clear Hy; have Hy := Lib.hid hy; clear hy
  have hz := Hz.out.below hb; clear Hz; have Hz := Lib.hid hz; clear hz
  have hxy := Hxy.out.below hb; clear Hxy; have Hxy := Lib.hid hxy; clear hxy
  have hyz := Hyz.out.below hb; clear Hyz; have Hyz := Lib.hid hyz; clear hyz
  have hxz := Hxz.out.below hb; clear Hxz; have Hxz := Lib.hid hxz; clear hxz
  have hyx := Hyx.out.below hb; clear Hyx; have Hyx := Lib.hid hyx; clear hyx
  have hbw := HBW.out.trans (hb.mono HBW.out.size); clear HBW hb; have HBW := Lib.hid hbw; clear hbw
  have Ho := Lib.hid hs; clear hs K
  dsimp only
  go_wp2_with fail
  have k := eitherY (AA.out.1.swap) Hy.out Hx.out (by have := Ly.out; omega) (by have := Lx.out; omega) (mul_le Ly.out Lx.out (by omega))
  obtain ⟨p, hp⟩ : ∃ p, eitherS y x = p := ⟨_, rfl⟩
  rw [hp] at k
  have Lp := Lib.hid (show p.length ≤ 64 by rw [← hp]; exact either_len Ly.out Lx.out (by omega))
  have Ep := Lib.hid hp; have K := Lib.hid k; clear k hp
  refine (K.out).mono ?_; rintro e v9 ⟨⟨Ap, cp, rfl, hs⟩, hb⟩
  have hx := Hx.out.below hb; clear Hx; have Hx := Lib.hid hx; clear hx
  have hy := Hy.out.below hb; clear Hy; have Hy := Lib.hid hy; clear hy
  have hz := Hz.out.below hb; clear Hz; have Hz := Lib.hid hz; clear hz
  have hxy := Hxy.out.below hb; clear Hxy; have Hxy := Lib.hid hxy; clear hxy
  have hyz := Hyz.out.below hb; clear Hyz; have Hyz := Lib.hid hyz; clear hyz
  have hxz := Hxz.out.below hb; clear Hxz; have Hxz := Lib.hid hxz; clear hxz
  have hyx := Hyx.out.below hb; clear Hyx; have Hyx := Lib.hid hyx; clear hyx
  have ho := Ho.out.below hb; clear Ho; have Ho := Lib.hid ho; clear ho
  have hbw := HBW.out.trans (hb.mono HBW.out.size); clear HBW hb; have HBW := Lib.hid hbw; clear hbw
  have Hp := Lib.hid hs; clear hs K
  dsimp only
  go_wp2_with fail
  refine (refSameW Hxy.out Hyx.out (by have := Lxy.out; omega) (by have := Lyx.out; omega) (decide_eq_true (by rw [QQ.out.1, ← Eyx.out]; exact both_comm AA.out.1)) _ (Below.refl _ _)).mono ?_; rintro e v10 ⟨rfl, hb⟩
  have hx := Hx.out.below hb; clear Hx; have Hx := Lib.hid hx; clear hx
  have hy := Hy.out.below hb; clear Hy; have Hy := Lib.hid hy; clear hy
  have hz := Hz.out.below hb; clear Hz; have Hz := Lib.hid hz; clear hz
  have hxy := Hxy.out.below hb; clear Hxy; have Hxy := Lib.hid hxy; clear hxy
  have hyz := Hyz.out.below hb; clear Hyz; have Hyz := Lib.hid hyz; clear hyz
  have hxz := Hxz.out.below hb; clear Hxz; have Hxz := Lib.hid hxz; clear hxz
  have hyx := Hyx.out.below hb; clear Hyx; have Hyx := Lib.hid hyx; clear hyx
  have ho := Ho.out.below hb; clear Ho; have Ho := Lib.hid ho; clear ho
  have hp := Hp.out.below hb; clear Hp; have Hp := Lib.hid hp; clear hp
  have hbw := HBW.out.trans (hb.mono HBW.out.size); clear HBW hb; have HBW := Lib.hid hbw; clear hbw
  go_wp2_with fail
  refine (refSameW Ho.out Hp.out (by have := Lo.out; omega) (by have := Lp.out; omega) (decide_eq_true (by rw [← Eo.out, ← Ep.out]; exact either_comm AA.out.1)) _ (Below.refl _ _)).mono ?_; rintro e v11 ⟨rfl, hb⟩
  have hx := Hx.out.below hb; clear Hx; have Hx := Lib.hid hx; clear hx
  have hy := Hy.out.below hb; clear Hy; have Hy := Lib.hid hy; clear hy
  have hz := Hz.out.below hb; clear Hz; have Hz := Lib.hid hz; clear hz
  have hxy := Hxy.out.below hb; clear Hxy; have Hxy := Lib.hid hxy; clear hxy
  have hyz := Hyz.out.below hb; clear Hyz; have Hyz := Lib.hid hyz; clear hyz
  have hxz := Hxz.out.below hb; clear Hxz; have Hxz := Lib.hid hxz; clear hxz
  have hyx := Hyx.out.below hb; clear Hyx; have Hyx := Lib.hid hyx; clear hyx
  have ho := Ho.out.below hb; clear Ho; have Ho := Lib.hid ho; clear ho
  have hp := Hp.out.below hb; clear Hp; have Hp := Lib.hid hp; clear hp
  have hbw := HBW.out.trans (hb.mono HBW.out.size); clear HBW hb; have HBW := Lib.hid hbw; clear hbw
  go_wp2_with fail
  have k := bothY (by rw [← Eo.out]; exact (alike_either AA.out.1 (alike_self AA.out.1.1)).swap) Hx.out Ho.out (by have := Lx.out; omega) (by have := Lo.out; omega)
  obtain ⟨q, hp⟩ : ∃ p, bothS x o = p := ⟨_, rfl⟩
  rw [hp] at k
  have Lq := Lib.hid (show q.length ≤ 72 by rw [← hp]; exact both_len Lx.out Lo.out (by omega))
  have Eq := Lib.hid hp; have K := Lib.hid k; clear k hp
  refine (K.out).mono ?_; rintro e v12 ⟨⟨Aq, cq, rfl, hs⟩, hb⟩
  have hx := Hx.out.below hb; clear Hx; have Hx := Lib.hid hx; clear hx
  have hy := Hy.out.below hb; clear Hy; have Hy := Lib.hid hy; clear hy
  have hz := Hz.out.below hb; clear Hz; have Hz := Lib.hid hz; clear hz
  have hxy := Hxy.out.below hb; clear Hxy; have Hxy := Lib.hid hxy; clear hxy
  have hyz := Hyz.out.below hb; clear Hyz; have Hyz := Lib.hid hyz; clear hyz
  have hxz := Hxz.out.below hb; clear Hxz; have Hxz := Lib.hid hxz; clear hxz
  have hyx := Hyx.out.below hb; clear Hyx; have Hyx := Lib.hid hyx; clear hyx
  have ho := Ho.out.below hb; clear Ho; have Ho := Lib.hid ho; clear ho
  have hp := Hp.out.below hb; clear Hp; have Hp := Lib.hid hp; clear hp
  have hbw := HBW.out.trans (hb.mono HBW.out.size); clear HBW hb; have HBW := Lib.hid hbw; clear hbw
  have Hq := Lib.hid hs; clear hs K
  dsimp only
  go_wp2_with fail
  have k := eitherY (by rw [QQ.out.1]; exact (alike_both AA.out.1 (alike_self AA.out.1.1) AA.out.1.swap).swap) Hx.out Hxy.out (by have := Lx.out; omega) (by have := Lxy.out; omega) (mul_le Lx.out Lxy.out (by omega))
  obtain ⟨r, hp⟩ : ∃ p, eitherS x xy = p := ⟨_, rfl⟩
  rw [hp] at k
  have Lr := Lib.hid (show r.length ≤ 128 by rw [← hp]; exact either_len Lx.out Lxy.out (by omega))
  have Er := Lib.hid hp; have K := Lib.hid k; clear k hp
  refine (K.out).mono ?_; rintro e v13 ⟨⟨Ar, cr, rfl, hs⟩, hb⟩
  have hx := Hx.out.below hb; clear Hx; have Hx := Lib.hid hx; clear hx
  have hy := Hy.out.below hb; clear Hy; have Hy := Lib.hid hy; clear hy
  have hz := Hz.out.below hb; clear Hz; have Hz := Lib.hid hz; clear hz
  have hxy := Hxy.out.below hb; clear Hxy; have Hxy := Lib.hid hxy; clear hxy
  have hyz := Hyz.out.below hb; clear Hyz; have Hyz := Lib.hid hyz; clear hyz
  have hxz := Hxz.out.below hb; clear Hxz; have Hxz := Lib.hid hxz; clear hxz
  have hyx := Hyx.out.below hb; clear Hyx; have Hyx := Lib.hid hyx; clear hyx
  have ho := Ho.out.below hb; clear Ho; have Ho := Lib.hid ho; clear ho
  have hp := Hp.out.below hb; clear Hp; have Hp := Lib.hid hp; clear hp
  have hq := Hq.out.below hb; clear Hq; have Hq := Lib.hid hq; clear hq
  have hbw := HBW.out.trans (hb.mono HBW.out.size); clear HBW hb; have HBW := Lib.hid hbw; clear hbw
  have Hr := Lib.hid hs; clear hs K
  dsimp only
  go_wp2_with fail
  have k := bothY (by rw [QQ.out.2.1]; exact (alike_either AA.out.2.2 AA.out.1.swap).swap) Hx.out Hyz.out (by have := Lx.out; omega) (by have := Lyz.out; omega)
  obtain ⟨s, hp⟩ : ∃ p, bothS x yz = p := ⟨_, rfl⟩
  rw [hp] at k
  have Ls := Lib.hid (show s.length ≤ 72 by rw [← hp]; exact both_len Lx.out Lyz.out (by omega))
  have Es := Lib.hid hp; have K := Lib.hid k; clear k hp
  refine (K.out).mono ?_; rintro e v14 ⟨⟨As, cs, rfl, hs⟩, hb⟩
  have hx := Hx.out.below hb; clear Hx; have Hx := Lib.hid hx; clear hx
  have hy := Hy.out.below hb; clear Hy; have Hy := Lib.hid hy; clear hy
  have hz := Hz.out.below hb; clear Hz; have Hz := Lib.hid hz; clear hz
  have hxy := Hxy.out.below hb; clear Hxy; have Hxy := Lib.hid hxy; clear hxy
  have hyz := Hyz.out.below hb; clear Hyz; have Hyz := Lib.hid hyz; clear hyz
  have hxz := Hxz.out.below hb; clear Hxz; have Hxz := Lib.hid hxz; clear hxz
  have hyx := Hyx.out.below hb; clear Hyx; have Hyx := Lib.hid hyx; clear hyx
  have ho := Ho.out.below hb; clear Ho; have Ho := Lib.hid ho; clear ho
  have hp := Hp.out.below hb; clear Hp; have Hp := Lib.hid hp; clear hp
  have hq := Hq.out.below hb; clear Hq; have Hq := Lib.hid hq; clear hq
  have hr := Hr.out.below hb; clear Hr; have Hr := Lib.hid hr; clear hr
  have hbw := HBW.out.trans (hb.mono HBW.out.size); clear HBW hb; have HBW := Lib.hid hbw; clear hbw
  have Hs := Lib.hid hs; clear hs K
  dsimp only
  go_wp2_with fail
  have k := eitherY (by rw [QQ.out.1, QQ.out.2.2]; exact alike_both AA.out.1 ((alike_both AA.out.2.1 (alike_self AA.out.1.1) AA.out.2.1.swap).swap) ((alike_both AA.out.2.1 AA.out.1 AA.out.2.2.swap).swap)) Hxy.out Hxz.out (by have := Lxy.out; omega) (by have := Lxz.out; omega) (mul_le Lxy.out Lxz.out (by omega))
  obtain ⟨t, hp⟩ : ∃ p, eitherS xy xz = p := ⟨_, rfl⟩
  rw [hp] at k
  have Lt := Lib.hid (show t.length ≤ 256 by rw [← hp]; exact either_len Lxy.out Lxz.out (by omega))
  have Et := Lib.hid hp; have K := Lib.hid k; clear k hp
  refine (K.out).mono ?_; rintro e v15 ⟨⟨At, ct, rfl, hs⟩, hb⟩
  have hx := Hx.out.below hb; clear Hx; have Hx := Lib.hid hx; clear hx
  have hy := Hy.out.below hb; clear Hy; have Hy := Lib.hid hy; clear hy
  have hz := Hz.out.below hb; clear Hz; have Hz := Lib.hid hz; clear hz
  have hxy := Hxy.out.below hb; clear Hxy; have Hxy := Lib.hid hxy; clear hxy
  have hyz := Hyz.out.below hb; clear Hyz; have Hyz := Lib.hid hyz; clear hyz
  have hxz := Hxz.out.below hb; clear Hxz; have Hxz := Lib.hid hxz; clear hxz
  have hyx := Hyx.out.below hb; clear Hyx; have Hyx := Lib.hid hyx; clear hyx
  have ho := Ho.out.below hb; clear Ho; have Ho := Lib.hid ho; clear ho
  have hp := Hp.out.below hb; clear Hp; have Hp := Lib.hid hp; clear hp
  have hq := Hq.out.below hb; clear Hq; have Hq := Lib.hid hq; clear hq
  have hr := Hr.out.below hb; clear Hr; have Hr := Lib.hid hr; clear hr
  have hs := Hs.out.below hb; clear Hs; have Hs := Lib.hid hs; clear hs
  have hbw := HBW.out.trans (hb.mono HBW.out.size); clear HBW hb; have HBW := Lib.hid hbw; clear hbw
  have Ht := Lib.hid hs; clear hs K
  dsimp only
  go_wp2_with fail
  refine (refSameW Hq.out Hx.out (by have := Lq.out; omega) (by have := Lx.out; omega) (decide_eq_true (by rw [← Eq.out, ← Eo.out]; exact both_absorb AA.out.1)) _ (Below.refl _ _)).mono ?_; rintro e v16 ⟨rfl, hb⟩
  have hx := Hx.out.below hb; clear Hx; have Hx := Lib.hid hx; clear hx
  have hy := Hy.out.below hb; clear Hy; have Hy := Lib.hid hy; clear hy
  have hz := Hz.out.below hb; clear Hz; have Hz := Lib.hid hz; clear hz
  have hxy := Hxy.out.below hb; clear Hxy; have Hxy := Lib.hid hxy; clear hxy
  have hyz := Hyz.out.below hb; clear Hyz; have Hyz := Lib.hid hyz; clear hyz
  have hxz := Hxz.out.below hb; clear Hxz; have Hxz := Lib.hid hxz; clear hxz
  have hyx := Hyx.out.below hb; clear Hyx; have Hyx := Lib.hid hyx; clear hyx
  have ho := Ho.out.below hb; clear Ho; have Ho := Lib.hid ho; clear ho
  have hp := Hp.out.below hb; clear Hp; have Hp := Lib.hid hp; clear hp
  have hq := Hq.out.below hb; clear Hq; have Hq := Lib.hid hq; clear hq
  have hr := Hr.out.below hb; clear Hr; have Hr := Lib.hid hr; clear hr
  have hs := Hs.out.below hb; clear Hs; have Hs := Lib.hid hs; clear hs
  have ht := Ht.out.below hb; clear Ht; have Ht := Lib.hid ht; clear ht
  have hbw := HBW.out.trans (hb.mono HBW.out.size); clear HBW hb; have HBW := Lib.hid hbw; clear hbw
  go_wp2_with fail
  refine (refSameW Hr.out Hx.out (by have := Lr.out; omega) (by have := Lx.out; omega) (decide_eq_true (by rw [← Er.out, QQ.out.1]; exact either_absorb AA.out.1)) _ (Below.refl _ _)).mono ?_; rintro e v17 ⟨rfl, hb⟩
  have hx := Hx.out.below hb; clear Hx; have Hx := Lib.hid hx; clear hx
  have hy := Hy.out.below hb; clear Hy; have Hy := Lib.hid hy; clear hy
  have hz := Hz.out.below hb; clear Hz; have Hz := Lib.hid hz; clear hz
  have hxy := Hxy.out.below hb; clear Hxy; have Hxy := Lib.hid hxy; clear hxy
  have hyz := Hyz.out.below hb; clear Hyz; have Hyz := Lib.hid hyz; clear hyz
  have hxz := Hxz.out.below hb; clear Hxz; have Hxz := Lib.hid hxz; clear hxz
  have hyx := Hyx.out.below hb; clear Hyx; have Hyx := Lib.hid hyx; clear hyx
  have ho := Ho.out.below hb; clear Ho; have Ho := Lib.hid ho; clear ho
  have hp := Hp.out.below hb; clear Hp; have Hp := Lib.hid hp; clear hp
  have hq := Hq.out.below hb; clear Hq; have Hq := Lib.hid hq; clear hq
  have hr := Hr.out.below hb; clear Hr; have Hr := Lib.hid hr; clear hr
  have hs := Hs.out.below hb; clear Hs; have Hs := Lib.hid hs; clear hs
  have ht := Ht.out.below hb; clear Ht; have Ht := Lib.hid ht; clear ht
  have hbw := HBW.out.trans (hb.mono HBW.out.size); clear HBW hb; have HBW := Lib.hid hbw; clear hbw
  go_wp2_with fail
  refine (refSameW Hs.out Ht.out (by have := Ls.out; omega) (by have := Lt.out; omega) (decide_eq_true (by rw [← Es.out, ← Et.out, QQ.out.1, QQ.out.2.1, QQ.out.2.2]; exact both_over AA.out.1 AA.out.2.1 AA.out.2.2)) _ (Below.refl _ _)).mono ?_; rintro e v18 ⟨rfl, hb⟩
  have hx := Hx.out.below hb; clear Hx; have Hx := Lib.hid hx; clear hx
  have hy := Hy.out.below hb; clear Hy; have Hy := Lib.hid hy; clear hy
  have hz := Hz.out.below hb; clear Hz; have Hz := Lib.hid hz; clear hz
  have hxy := Hxy.out.below hb; clear Hxy; have Hxy := Lib.hid hxy; clear hxy
  have hyz := Hyz.out.below hb; clear Hyz; have Hyz := Lib.hid hyz; clear hyz
  have hxz := Hxz.out.below hb; clear Hxz; have Hxz := Lib.hid hxz; clear hxz
  have hyx := Hyx.out.below hb; clear Hyx; have Hyx := Lib.hid hyx; clear hyx
  have ho := Ho.out.below hb; clear Ho; have Ho := Lib.hid ho; clear ho
  have hp := Hp.out.below hb; clear Hp; have Hp := Lib.hid hp; clear hp
  have hq := Hq.out.below hb; clear Hq; have Hq := Lib.hid hq; clear hq
  have hr := Hr.out.below hb; clear Hr; have Hr := Lib.hid hr; clear hr
  have hs := Hs.out.below hb; clear Hs; have Hs := Lib.hid hs; clear hs
  have ht := Ht.out.below hb; clear Ht; have Ht := Lib.hid ht; clear ht
  have hbw := HBW.out.trans (hb.mono HBW.out.size); clear HBW hb; have HBW := Lib.hid hbw; clear hbw
  go_wp2_with fail
  refine (WW.out _).mono ?_; rintro e we ⟨rfl, hbe⟩
  go_wp2_with fail
  go_ret
  exact ⟨rfl, HBW.out.trans (hbe.mono HBW.out.size)⟩

set_option maxRecDepth 100000 in
theorem lifted (os : Os) (started : os.Started) (H : Type) (enc : TypeId × Value → H) :
    ReturnsInHanded {} Try.checked os 7 .any (Rows.antichainLatticeSpec.pre6 enc Try.prog Try.f7 Rows.antichainLatticeRow.domain false) (Rows.antichainLatticeSpec.post enc Try.prog Try.f7 false true false false) := by
  refine returnsInHanded_of_change_sized (C := Try.checked) ownKnob_none started (by kernel_rfl) Try.func7
    (ChangeSpec.witness6 (enc := enc) (C := Try.checked) false ⟨#[], #[.slice none 0 0, .slice none 0 0, .slice none 0 0], []⟩ 8 (by kernel_rfl) (by kernel_rfl) (by kernel_rfl) (by kernel_rfl)) ?_
  intro W base args ds gs before hval0 hW hcnd hsz0 _
  have hval : ∀ (j : Nat) t v, Try.f7.params[j]? = some t → args[j]? = some v → Value.okWide Try.prog W .any base t v := hval0
  have hW' := hW
  obtain ⟨p, q, hA0, hV, rfl, hfz, hnd⟩ := hW
  have hA : DataW.TrodAll enc Try.prog W 0 (fun _ => true) true Try.f7.params.toList args.toList ds p := hA0
  have hsz : (DataW.weightsEach Try.prog (Try.f7.params.toList ++ Rows.antichainLatticeSpec.plain.varTypes Try.prog) (ds ++ gs)).all (· ≤ reachBytes) = true := hsz0
  rw [Try.params7] at hA hval hsz
  obtain ⟨v0, vs0, d0, ds0, p0, q0, hargs, rfl, rfl, h0, r0⟩ := trodAll_cons hA
  obtain ⟨v1, vs1, d1, ds1, p1, q1, rfl, rfl, rfl, h1, r1⟩ := trodAll_cons r0
  obtain ⟨v2, vs2, d2, ds2, p2, q2, rfl, rfl, rfl, h2, r2⟩ := trodAll_cons r1
  obtain ⟨rfl, rfl, rfl⟩ := trodAll_nil r2
  obtain rfl : args = #[v0, v1, v2] := by cases args; simp_all
  obtain ⟨rfl, rfl⟩ := trodVars_none hV
  obtain ⟨A0, l0, c0, rfl, hT0, hc0, hm0, hn0⟩ := open_times (hval 0 22 v0 rfl rfl) h0
  obtain ⟨A1, l1, c1, rfl, hT1, hc1, hm1, hn1⟩ := open_times (hval 1 22 v1 rfl rfl) h1
  obtain ⟨A2, l2, c2, rfl, hT2, hc2, hm2, hn2⟩ := open_times (hval 2 22 v2 rfl rfl) h2
  clear hA0 hval0 hsz0
  refine (walk A0 A1 A2 l0 l1 l2 c0 c1 c2 W ⟨hT0, hc0, hm0, hn0⟩ ⟨hT1, hc1, hm1, hn1⟩ ⟨hT2, hc2, hm2, hn2⟩).mono fun e W' ⟨he, hg⟩ => ?_
  subst he
  exact ⟨_, rfl, law_post progLaid hW' rfl (by rw [Try.params7]; intro t ht; simp at ht; subst ht; exact ⟨by kernel_rfl, of_decide_eq_true (by kernel_rfl)⟩) rfl Try.underlying4 rfl hg⟩

theorem over : Rows.antichainLatticeRow.holds Try.pinned (OpenSpec.ofChange Rows.antichainLatticeSpec) :=
  OpenClaim.holds_of_wide 7 Try.f7 rfl rfl rfl rfl rfl rfl rfl ⟨rfl, rfl, rfl, rfl, rfl⟩ rfl rfl rfl rfl rfl (by kernel_rfl) Try.func7 (by kernel_rfl)
    (of_decide_eq_true (by kernel_rfl)) (by unfold Func.isWrapper; first | (rw [if_pos (by decide +kernel)]; kernel_rfl) | (rw [if_neg (by decide +kernel)]; exact ⟨rfl, rfl⟩))
    (fun os started H enc _ => lifted os started H enc)

/-- The statement. -/
theorem proved : Rows.AntichainLatticeSaid :=
  over
end antichainLattice
end Go.Proofs.Ytpcpjnebdhiddaa
