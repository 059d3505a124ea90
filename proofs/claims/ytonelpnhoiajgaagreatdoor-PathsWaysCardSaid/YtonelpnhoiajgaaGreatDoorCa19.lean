import Derived.Test.YtonelpnhoiajgaaGreatDoorHd
import Derived.Test.YtonelpnhoiajgaaGreatDoorCa5
import Derived.Test.YtonelpnhoiajgaaGreatDoorCa18
import Derived.Test.YtonelpnhoiajgaaGreatDoorCa2
import Derived.Test.YtonelpnhoiajgaaGreatDoorCa15
import Derived.Shelf.Abstract
import Derived.RangeFuncNested
import Derived.RangeFuncBound
import Derived.RangeFuncCalls
import Derived.RangeFuncLeaves
import Derived.Shelf.RegionOpen
import Derived.OwnWalkIn
import Derived.TacticsInMore
import Derived.LoopNIn
import Derived.LoopIn
import Derived.Maps.OwnIn
import Derived.DeepKeys4
import Derived.Sort.MapsRangeIn
import Derived.Sort.KeysCollected
namespace Go.Proofs.YtonelpnhoiajgaaGreatDoor
set_option linter.unusedSimpArgs false
set_option maxRecDepth 100000
open Go.ChangeShapes Go.WideShapes Go.ChangeAt Go.RowKit Go.BigFrame
set_option linter.unusedVariables false
section
def MayNext (g : List Nd) (T : List Nat) (i : Nat) : Prop:=i ∉ T ∧ ∃ x,g[i]? = some x ∧ (x.k = 9 ∨ ∀ z ∈ x.ins,0 ≤ z ∧ z.toNat ∈ T)
noncomputable def nextO (g : List Nd) (T : List Nat) : Option Nat:=firstP (MayNext g T) g.length
def OrdT (g : List Nd) (T : List Nat) : Prop:=∀ (j i : Nat),T[j]? = some i → nextO g (T.take j) = some i
theorem OrdT.take {g : List Nd} {T : List Nat} (h : OrdT g T) (n : Nat) : OrdT g (T.take n):=fun j i hi => by
 rw [List.getElem?_take] at hi
 split at hi
 · rw [List.take_take,Nat.min_eq_left (by omega)]
   exact h j i hi
 · cases hi
end

section
instance (n : Nd) : Decidable n.May:=inferInstanceAs (Decidable ((0 ≤ n.d ∧ n.d ≤ 3) ∧ n.ins.length ≤ 2 ∧ ∀ x ∈ n.ins,0 ≤ x ∧ x ≤ 31))
instance (g : List Nd) : Decidable (GMay g):=inferInstanceAs (Decidable ((1 ≤ g.length ∧ g.length ≤ 32) ∧ ∀ n ∈ g,n.May))
theorem putE_ok {g : List Nd} (h : GMay g) : putE g = 0:=by
 have h1:=h.1
 unfold putE
 rw [if_neg (by omega),if_pos (mayB_iff.2 h)]
def portC (g : List Nd) (z : Int) : Bool:=decide (0 ≤ z) && match g[z.toNat]? with | some m => decide (m.k ≠ 10) | none => false
def errC (g : List Nd) (n : Nd) : Int :=
 if n.num = false then 130
 else if (n.ins.all (portC g) && decide (n.ins.length = n.want)) = false then 100
 else if (n.deepB && n.ins.all fun z => match g[z.toNat]? with | some m => decide (n.d - n.more = m.d) | none => true) = false then 101 else 0
theorem portC_iff {g : List Nd} {z : Int} : portC g z = true ↔ portOk g z:=by
 unfold portC portOk
 cases h : g[z.toNat]? with
 | none => simp
 | some m => simp
theorem errC_is (g : List Nd) (n : Nd) : n.err g = errC g n:=by
 have hp : (n.ins.all (portC g) && decide (n.ins.length = n.want)) = true ↔ n.Ports g:=by
  unfold Nd.Ports
  rw [Bool.and_eq_true,List.all_eq_true,decide_eq_true_iff]
  exact ⟨fun h => ⟨fun z hz => portC_iff.1 (h.1 z hz),h.2⟩,fun h => ⟨fun z hz => portC_iff.2 (h.1 z hz),h.2⟩⟩
 have hd : (n.deepB && n.ins.all fun z => match g[z.toNat]? with | some m => decide (n.d - n.more = m.d) | none => true) = true ↔ n.Deep g:=by
  unfold Nd.Deep
  rw [Bool.and_eq_true,List.all_eq_true]
  constructor
  · rintro ⟨h1,h2⟩
    refine ⟨h1,fun z hz m hm => ?_⟩
    have:=h2 z hz
    rw [hm] at this
    simpa using this
  · rintro ⟨h1,h2⟩
    refine ⟨h1,fun z hz => ?_⟩
    cases hm : g[z.toNat]? with
    | none => rfl
    | some m => simpa using h2 z hz m hm
 unfold errC
 by_cases h1 : n.num = false
 · rw [err_num h1,if_pos h1]
 · rw [if_neg h1]
   have h1' : n.num = true:=by simpa using h1
   by_cases h2 : n.Ports g
   · rw [if_neg (by rw [hp.2 h2];simp)]
     by_cases h3 : n.Deep g
     · rw [if_neg (by rw [hd.2 h3];simp),err_ok h1' h2 h3]
     · rw [if_pos (by rw [← Bool.not_eq_true];exact fun h => h3 (hd.1 h)),err_deep h1' h2 h3]
   · rw [if_pos (by rw [← Bool.not_eq_true];exact fun h => h2 (hp.1 h)),err_ports h1' h2]
def nodeC (g : List Nd) (i : Nat) : Int:=match g[i]? with | some n => errC g n | none => 2
theorem nodeC_is (g : List Nd) (i : Nat) : nodeE g (i : Nat) = nodeC g i:=by
 unfold nodeC
 cases h : g[i]? with
 | some n => rw [nodeE_at h,errC_is]
 | none => exact nodeE_out (.inr (by have:=List.getElem?_eq_none_iff.1 h;omega))
def succs (g : List Nd) (least : Int) (s : Nat) : List Nat :=
 (List.range g.length).filterMap fun n => match g[n]? with | some x => if (x.ins.contains ((s / 2 : Nat) : Int) && x.stays least) = true then some (nextC least s n x) else none | none => none
theorem mem_succs {g : List Nd} {least : Int} {s t : Nat} : t ∈ succs g least s ↔ StepN g least s t:=by
 unfold succs StepN
 rw [List.mem_filterMap]
 constructor
 · rintro ⟨n,hn,h⟩
   cases hx : g[n]? with
   | none => rw [hx] at h;cases h
   | some x =>
     rw [hx] at h
     simp only at h
     split at h
     · rename_i hc
       injection h with h
       subst h
       rw [Bool.and_eq_true,List.contains_iff_mem] at hc
       exact ⟨x,by rw [nextC_half];exact hx,hc.1,hc.2,by rw [nextC_half];rfl⟩
     · cases h
 · rintro ⟨x,hx,hin,hs,ht⟩
   refine ⟨t / 2,List.mem_range.2 (List.getElem?_eq_some_iff.1 hx).1,?_⟩
   rw [hx]
   simp only
   rw [if_pos (by rw [Bool.and_eq_true,List.contains_iff_mem];exact ⟨hin,hs⟩)]
   congr 1
   exact ht.symm
def chkReachC (g : List Nd) (least : Int) : Nat → List Nat → List Nat
 | 0,S => S
 | k + 1,S => chkReachC g least k (S.foldl (fun S s => (succs g least s).foldl (fun S t => if S.contains t then S else S ++ [t]) S) S)
def closedC (g : List Nd) (least : Int) (first tgt : Nat) (S : List Nat) : Bool:=(succs g least first).all (fun t => S.contains t) && S.all (fun s => (succs g least s).all fun t => S.contains t) && !S.contains tgt
theorem closedC_no {g : List Nd} {least : Int} {first tgt : Nat} {S : List Nat} (h : closedC g least first tgt S = true) : ¬ ReachN g least first tgt:=by
 unfold closedC at h
 rw [Bool.and_eq_true,Bool.and_eq_true] at h
 obtain ⟨⟨h1,h2⟩,h3⟩:=h
 have h1' : ∀ t ∈ succs g least first,t ∈ S:=fun t ht => List.contains_iff_mem.1 (List.all_eq_true.1 h1 t ht)
 have h2' : ∀ s ∈ S,∀ t ∈ succs g least s,t ∈ S:=fun s hs t ht => List.contains_iff_mem.1 (List.all_eq_true.1 (List.all_eq_true.1 h2 s hs) t ht)
 have key : ∀ t,ReachN g least first t → t ∈ S:=by
  intro t ht
  induction ht with
  | one hs => exact h1' _ (mem_succs.2 hs)
  | more _ hs ih => exact h2' _ ih _ (mem_succs.2 hs)
 intro hr
 have:=List.contains_iff_mem.2 (key tgt hr)
 rw [this] at h3;cases h3
def goodC (g : List Nd) (i : Nat) : Bool:=match g[i]? with
 | none => true
 | some x => decide (x.d ≤ 3) && (List.range 4).all fun least => decide (x.d < (least : Int)) || !x.stays least || closedC g least (startN x i least) (2 * i + 1) (chkReachC g least (2 * g.length) (succs g least (startN x i least)))
theorem goodC_no {g : List Nd} {i : Nat} (h : goodC g i = true) : ¬ BadAt g i:=by
 rintro ⟨x,hx,least,h0,hd,y,hy,hs,hr⟩
 rw [hx] at hy;injection hy with hy;subst hy
 unfold goodC at h
 rw [hx] at h
 simp only [Bool.and_eq_true,decide_eq_true_eq,List.all_eq_true] at h
 obtain ⟨L,rfl⟩ : ∃ L : Nat,least = (L : Int):=Int.eq_ofNat_of_zero_le h0
 have h2:=h.2 L (List.mem_range.2 (by omega))
 simp only [Bool.or_eq_true,decide_eq_true_eq,Bool.not_eq_true'] at h2
 rcases h2 with (h2 | h2) | h2
 · omega
 · rw [hs] at h2;cases h2
 · exact closedC_no h2 hr
def okC (g : List Nd) : Bool:=(List.range g.length).all (fun i => decide (nodeC g i = 0)) && (List.range g.length).all (goodC g)
theorem okC_check {g : List Nd} (hm : GMay g) (h : okC g = true) : checkR g = ((g.length : Int),0):=by
 unfold okC at h
 rw [Bool.and_eq_true,List.all_eq_true,List.all_eq_true] at h
 refine checkR_ok (putE_ok hm) (fun j hj => ?_) fun j hj => goodC_no (h.2 j (List.mem_range.2 hj))
 have:=h.1 j (List.mem_range.2 hj)
 rw [nodeC_is];simpa using this
end

section
def covB (g : List Nd) (i : Nat) (L : List (Nat × Sm)) : Bool :=
 (match g[i]? with
   | none => true
   | some x => (toG ((i : Nat) : Int) 0 g).all fun p => L.any fun a => decide (a.1 = p.1 ∧ a.2.L (idS x.d))) &&
 L.all fun a => match g[a.1]? with
  | none => true
  | some x => if x.smOk ∧ a.2.thenOk x.sm then (toG ((a.1 : Nat) : Int) 0 g).all fun p => L.any fun b => decide (b.1 = p.1 ∧ b.2.L (a.2.seq x.sm)) else true
def oneB (g : List Nd) (i : Nat) (acc : List (Nat × Sm)) (a : Nat × Sm) : Bool :=
 (match g[i]? with
   | none => false
   | some x => decide (a.2 = idS x.d) && (toG ((i : Nat) : Int) 0 g).any fun p => decide (p.1 = a.1)) ||
 acc.any fun b => match g[b.1]? with
  | none => false
  | some x => decide (x.smOk ∧ b.2.thenOk x.sm ∧ a.2 = b.2.seq x.sm) && (toG ((b.1 : Nat) : Int) 0 g).any fun p => decide (p.1 = a.1)
def arrB (g : List Nd) (i : Nat) : List (Nat × Sm) → List (Nat × Sm) → Bool
 | _,[] => true
 | acc,a :: l => oneB g i acc a && arrB g i (a :: acc) l
section
variable {g : List Nd} {i n : Nat} {L acc : List (Nat × Sm)} {s : Sm}
theorem fd_any {j m : Nat} (h : ((toG ((j : Nat) : Int) 0 g).any fun p => decide (p.1 = m)) = true) : Fd g j m:=by
 obtain ⟨p,hp,e⟩:=List.any_eq_true.1 h
 exact toG_fd.1 ⟨p,hp,of_decide_eq_true e⟩
theorem one_arr {a : Nat × Sm} (hacc : ∀ b ∈ acc,Arr g i b.1 b.2) (h : oneB g i acc a = true) : Arr g i a.1 a.2:=by
 unfold oneB at h
 rcases Bool.or_eq_true_iff.1 h with h | h
 · cases hx : g[i]? with
   | none => rw [hx] at h;cases h
   | some x =>
     rw [hx] at h
     obtain ⟨h1,h2⟩:=Bool.and_eq_true_iff.1 h
     rw [of_decide_eq_true h1]
     exact .first hx (fd_any h2)
 · obtain ⟨b,hb,h⟩:=List.any_eq_true.1 h
   cases hx : g[b.1]? with
   | none => rw [hx] at h;cases h
   | some x =>
     rw [hx] at h
     obtain ⟨h1,h2⟩:=Bool.and_eq_true_iff.1 h
     obtain ⟨h3,h4,h5⟩:=of_decide_eq_true h1
     rw [h5]
     exact .on (hacc b hb) hx h3 h4 (fd_any h2)
theorem arr_all : ∀ (l acc : List (Nat × Sm)),(∀ b ∈ acc,Arr g i b.1 b.2) → arrB g i acc l = true → ∀ b ∈ l,Arr g i b.1 b.2
 | [],acc,_,_ => fun b hb => by cases hb
 | a :: l,acc,hacc,h => by
   unfold arrB at h
   obtain ⟨h1,h2⟩:=Bool.and_eq_true_iff.1 h
   have ha:=one_arr hacc h1
   have hacc' : ∀ b ∈ a :: acc,Arr g i b.1 b.2:=fun b hb => by
    rcases List.mem_cons.1 hb with rfl | hb
    · exact ha
    · exact hacc b hb
   intro b hb
   rcases List.mem_cons.1 hb with rfl | hb
   · exact ha
   · exact arr_all l (a :: acc) hacc' h2 b hb
theorem cov_any {m : Nat} {u : Sm} {j : Nat} (h : ((toG ((j : Nat) : Int) 0 g).all fun p => L.any fun a => decide (a.1 = p.1 ∧ a.2.L u)) = true) (hf : Fd g j m) : ∃ t,(m,t) ∈ L ∧ t.L u:=by
 obtain ⟨p,hp,rfl⟩:=toG_fd.2 hf
 obtain ⟨a,ha,e⟩:=List.any_eq_true.1 (List.all_eq_true.1 h p hp)
 obtain ⟨e1,e2⟩:=of_decide_eq_true e
 exact ⟨a.2,by rw [← e1];exact ha,e2⟩
theorem cov_of (h : covB g i L = true) (k : arrB g i [] L = true) : Cov g i (fun n s => (n,s) ∈ L) where
 sound:=fun n s hs => arr_all L [] (fun b hb => by cases hb) k (n,s) hs
 first:=fun n x hx hf => by
  obtain ⟨h1,_⟩:=Bool.and_eq_true_iff.1 h
  rw [hx] at h1
  exact cov_any h1 hf
 on:=fun n m s x hs hx ho ht hf => by
  obtain ⟨_,h2⟩:=Bool.and_eq_true_iff.1 h
  have h3:=List.all_eq_true.1 h2 (n,s) hs
  simp only at h3
  rw [hx] at h3
  simp only [if_pos (show x.smOk ∧ s.thenOk x.sm from ⟨ho,ht⟩)] at h3
  exact cov_any h3 hf
theorem WaysOf.is {l : List Sm} (hc : Cov g i (fun n s => (n,s) ∈ L)) (h : WaysOf g (i : Nat) (n : Nat) l) (hi : i < g.length) (hn : n < g.length) : l = waysS (atA n L):=by
 rcases h with ⟨i',n',T,D,e1,e2,_,_,hr,hl⟩ | ⟨hno,_⟩
 · obtain rfl : i = i':=by omega
   obtain rfl : n = n':=by omega
   have hp:=hr.coverP
   have hall : ∀ x ∈ atA n L ++ l,Arr g i n x:=fun x hx => by
    rcases List.mem_append.1 hx with hx | hx
    · exact hc.sound n x (mem_atA.1 hx)
    · exact hr.dsound n x (hr.sub n l x hl hx)
   have e1 : waysS l = waysS (atA n L ++ l):=waysS_cover (fun x hx => List.mem_append_right _ hx) fun x hx _ => by
    obtain ⟨t,⟨l',hl',ht⟩,htl⟩:=hp.covers (hall x hx)
    rw [hl] at hl';cases hl'
    exact ⟨t,ht,htl⟩
   have e2 : waysS (atA n L) = waysS (atA n L ++ l):=waysS_cover (fun x hx => List.mem_append_left _ hx) fun x hx _ => by
    obtain ⟨t,ht,htl⟩:=hc.covers (hall x hx)
    exact ⟨t,mem_atA.2 ht,htl⟩
   rw [← hr.self n l hl,e1,e2]
 · exact absurd ⟨⟨by omega,by omega⟩,by omega,by omega⟩ hno
end
/-! the law's own graph -/
def wayN : List Nd:=[⟨1,0,0,0,[]⟩,⟨7,0,0,1,[0]⟩,⟨4,0,0,1,[1,3]⟩,⟨9,0,2,1,[2]⟩,⟨8,0,0,0,[2]⟩,⟨10,0,0,0,[4]⟩]
theorem ex_way : checkR wayN = (6,0):=okC_check (by decide) (by decide +kernel)
def way0 : List (Nat × Sm):=[(1,⟨0,0,0,0,0,0,0⟩),(2,⟨0,1,0,0,0,0,0⟩),(3,⟨0,1,0,0,0,0,0⟩),(4,⟨0,1,0,0,0,0,0⟩),(5,⟨0,0,0,0,0,0,0⟩)]
def way2 : List (Nat × Sm):=[(3,⟨1,1,1,0,0,0,0⟩),(4,⟨1,1,1,0,0,0,0⟩),(2,⟨1,1,1,1,0,0,0⟩),(5,⟨1,0,0,0,0,0,0⟩)]
theorem cov0 : Cov wayN 0 (fun n s => (n,s) ∈ way0):=cov_of (by decide +kernel) (by decide +kernel)
theorem cov2 : Cov wayN 2 (fun n s => (n,s) ∈ way2):=cov_of (by decide +kernel) (by decide +kernel)
theorem cov5 : Cov wayN 5 (fun n s => (n,s) ∈ ([] : List (Nat × Sm))):=cov_of (by decide +kernel) (by decide +kernel)
theorem ex_01 {l : List Sm} (h : WaysOf wayN 0 1 l) : l = [⟨0,0,0,0,0,0,0⟩]:=(WaysOf.is (n:=1) cov0 h (by decide) (by decide)).trans (by decide +kernel)
theorem ex_02 {l : List Sm} (h : WaysOf wayN 0 2 l) : l = [⟨0,1,0,0,0,0,0⟩]:=(WaysOf.is (n:=2) cov0 h (by decide) (by decide)).trans (by decide +kernel)
theorem ex_22 {l : List Sm} (h : WaysOf wayN 2 2 l) : l = [⟨1,1,1,1,0,0,0⟩]:=(WaysOf.is (n:=2) cov2 h (by decide) (by decide)).trans (by decide +kernel)
theorem ex_25 {l : List Sm} (h : WaysOf wayN 2 5 l) : l = [⟨1,0,0,0,0,0,0⟩]:=(WaysOf.is (n:=5) cov2 h (by decide) (by decide)).trans (by decide +kernel)
theorem ex_50 {l : List Sm} (h : WaysOf wayN 5 0 l) : l = []:=(WaysOf.is (n:=0) cov5 h (by decide) (by decide)).trans rfl
theorem ex_c25 : ofS (appS ⟨1,4,2,0,0⟩ [⟨1,0,0,0,0,0,0⟩]) = [⟨0,4,0,0,0⟩]:=by decide +kernel
theorem ex_c02 : ofS (appS ⟨0,4,0,0,0⟩ [⟨0,1,0,0,0,0,0⟩]) = [⟨1,4,0,0,0⟩]:=by decide +kernel
end

section
set_option maxHeartbeats 1000000 in
theorem apply_A (s : Sm) (t : St) (w : World) (h : ¬ s.R) : Calls Tryz.prog 97 #[s.v,t.val] w fun e w' => e = .returned (.tuple #[(s.ap t).val,.bool (s.apB t)]) ∧ Below w.heap.size w w':=by
 have h3:=Trio.made w 82 s t
 have hbw:=below_alloc3 w (.cells #[.int .i64 s.fr,.int .i64 s.to,.int .i64 s.kp,.int .i64 s.ad,.int .i64 s.t0,.int .i64 s.t1,.int .i64 s.t2] 82) (.cells #[.int .i64 t.d,.int .i64 t.e,.int .i64 t.x,.int .i64 t.y,.int .i64 t.z] 27) (.cells #[.int .i64 0,.int .i64 0,.int .i64 0,.int .i64 0,.int .i64 0] 27)
 obtain ⟨q1,q2⟩:=Sm.ap_no (s:=s) (t:=t) (fun g => h g.1)
 rw [q1,q2];clear q1 q2
 have H3:=Hd h3;have HB:=Hd hbw;clear h3 hbw
 have r1:=fun w => rightM_false h w
 have R1:=Hd r1;clear r1 h
 unfold Sm.v St.val at *
 go_enter Tryz.func97,Tryz.ntmps97
 go_wp2_with fail
 refine (R1.out _).mono ?_;rintro e w2 ⟨rfl,hb2⟩
 have k3:=H3.out.below hb2
 have kb:=HB.out.trans (hb2.mono HB.out.size);clear H3 HB
 have H3:=Hd k3;have HB:=Hd kb;clear k3 kb hb2
 obtain ⟨f0,f1,f2,f3,f4⟩:=H3.out.2.2.f5
 obtain ⟨z0,z1,z2,z3,z4⟩:=H3.out.2.2.c5
 go_wp2_with fail
 refine bodyPost_ret (v:=.tuple #[.agg #[.int .i64 0,.int .i64 0,.int .i64 0,.int .i64 0,.int .i64 0],.bool false]) (two_results rfl _ _ _ 27 _ (0,0) _ rfl (row_set5' H3.out.2.2) Tryz.underlying27 rfl (by kernel_rfl) rfl) rfl ?_
 exact ⟨rfl,below_set5' HB.out (by omega)⟩
set_option maxHeartbeats 1000000 in
theorem apply_B (s : Sm) (t : St) (w : World) (h : s.R) (h2 : ¬ t.R) : Calls Tryz.prog 97 #[s.v,t.val] w fun e w' => e = .returned (.tuple #[(s.ap t).val,.bool (s.apB t)]) ∧ Below w.heap.size w w':=by
 have h3:=Trio.made w 82 s t
 have hbw:=below_alloc3 w (.cells #[.int .i64 s.fr,.int .i64 s.to,.int .i64 s.kp,.int .i64 s.ad,.int .i64 s.t0,.int .i64 s.t1,.int .i64 s.t2] 82) (.cells #[.int .i64 t.d,.int .i64 t.e,.int .i64 t.x,.int .i64 t.y,.int .i64 t.z] 27) (.cells #[.int .i64 0,.int .i64 0,.int .i64 0,.int .i64 0,.int .i64 0] 27)
 obtain ⟨q1,q2⟩:=Sm.ap_no (s:=s) (t:=t) (fun g => h2 g.2.1)
 rw [q1,q2];clear q1 q2
 have H3:=Hd h3;have HB:=Hd hbw;clear h3 hbw
 have r1:=fun w => rightM_true h w
 have r2:=fun w => right_false h2 w
 have R1:=Hd r1;have R2:=Hd r2;clear r1 r2 h h2
 unfold Sm.v St.val at *
 go_enter Tryz.func97,Tryz.ntmps97
 go_wp2_with fail
 refine (R1.out _).mono ?_;rintro e w2 ⟨rfl,hb2⟩
 have k3:=H3.out.below hb2
 have kb:=HB.out.trans (hb2.mono HB.out.size);clear H3 HB
 have H3:=Hd k3;have HB:=Hd kb;clear k3 kb hb2
 obtain ⟨a0,a1,a2,a3,a4⟩:=H3.out.2.1.c5
 obtain ⟨b0,b1,b2,b3,b4,b5,b6⟩:=H3.out.1.cells7
 go_wp2_with fail
 clear a0 a1 a2 a3 a4 b0 b1 b2 b3 b4 b5 b6
 refine (R2.out _).mono ?_;rintro e w3 ⟨rfl,hb3⟩
 have k3:=H3.out.below hb3
 have kb:=HB.out.trans (hb3.mono HB.out.size);clear H3 HB
 have H3:=Hd k3;have HB:=Hd kb;clear k3 kb hb3
 obtain ⟨f0,f1,f2,f3,f4⟩:=H3.out.2.2.f5
 obtain ⟨z0,z1,z2,z3,z4⟩:=H3.out.2.2.c5
 go_wp2_with fail
 refine bodyPost_ret (v:=.tuple #[.agg #[.int .i64 0,.int .i64 0,.int .i64 0,.int .i64 0,.int .i64 0],.bool false]) (two_results rfl _ _ _ 27 _ (0,0) _ rfl (row_set5' H3.out.2.2) Tryz.underlying27 rfl (by kernel_rfl) rfl) rfl ?_
 exact ⟨rfl,below_set5' HB.out (by omega)⟩
set_option maxHeartbeats 1000000 in
theorem apply_C (s : Sm) (t : St) (w : World) (h : s.R) (h2 : t.R) (hd : ¬ t.d = s.fr) : Calls Tryz.prog 97 #[s.v,t.val] w fun e w' => e = .returned (.tuple #[(s.ap t).val,.bool (s.apB t)]) ∧ Below w.heap.size w w':=by
 have h3:=Trio.made w 82 s t
 have hbw:=below_alloc3 w (.cells #[.int .i64 s.fr,.int .i64 s.to,.int .i64 s.kp,.int .i64 s.ad,.int .i64 s.t0,.int .i64 s.t1,.int .i64 s.t2] 82) (.cells #[.int .i64 t.d,.int .i64 t.e,.int .i64 t.x,.int .i64 t.y,.int .i64 t.z] 27) (.cells #[.int .i64 0,.int .i64 0,.int .i64 0,.int .i64 0,.int .i64 0] 27)
 obtain ⟨q1,q2⟩:=Sm.ap_no (s:=s) (t:=t) (fun g => hd g.2.2.1)
 rw [q1,q2];clear q1 q2
 have H3:=Hd h3;have HB:=Hd hbw;clear h3 hbw
 have r1:=fun w => rightM_true h w
 have r2:=fun w => right_true h2 w
 have hn : (t.d != s.fr) = true:=by simpa using hd
 have R1:=Hd r1;have R2:=Hd r2;clear r1 r2 h h2 hd
 unfold Sm.v St.val at *
 go_enter Tryz.func97,Tryz.ntmps97
 go_wp2_with fail
 refine (R1.out _).mono ?_;rintro e w2 ⟨rfl,hb2⟩
 have k3:=H3.out.below hb2
 have kb:=HB.out.trans (hb2.mono HB.out.size);clear H3 HB
 have H3:=Hd k3;have HB:=Hd kb;clear k3 kb hb2
 obtain ⟨a0,a1,a2,a3,a4⟩:=H3.out.2.1.c5
 obtain ⟨b0,b1,b2,b3,b4,b5,b6⟩:=H3.out.1.cells7
 go_wp2_with fail
 clear a0 a1 a2 a3 a4 b0 b1 b2 b3 b4 b5 b6
 refine (R2.out _).mono ?_;rintro e w3 ⟨rfl,hb3⟩
 have k3:=H3.out.below hb3
 have kb:=HB.out.trans (hb3.mono HB.out.size);clear H3 HB
 have H3:=Hd k3;have HB:=Hd kb;clear k3 kb hb3
 obtain ⟨a0,a1,a2,a3,a4⟩:=H3.out.2.1.c5
 obtain ⟨b0,b1,b2,b3,b4,b5,b6⟩:=H3.out.1.cells7
 obtain ⟨f0,f1,f2,f3,f4⟩:=H3.out.2.2.f5
 obtain ⟨z0,z1,z2,z3,z4⟩:=H3.out.2.2.c5
 go_wp2_with fail
 refine bodyPost_ret (v:=.tuple #[.agg #[.int .i64 0,.int .i64 0,.int .i64 0,.int .i64 0,.int .i64 0],.bool false]) (two_results rfl _ _ _ 27 _ (0,0) _ rfl (row_set5' H3.out.2.2) Tryz.underlying27 rfl (by kernel_rfl) rfl) rfl ?_
 exact ⟨rfl,below_set5' HB.out (by omega)⟩
end

section
end

section
def Ts (w : World) (A : Option Addr) (ts : List St) : Prop :=
 0 < ts.length → ∃ b o,A = some ⟨b,o,none⟩ ∧ b < w.heap.size ∧ ∀ (j : Nat) (u : Value),(rowS ts)[j]? = some u → w.cell? ⟨b,o + j,none⟩ = some u
section
variable {w w' : World} {A : Option Addr} {ts : List St}
theorem Ts.below (h : Ts w A ts) (hb : Below w.heap.size w w') : Ts w' A ts:=fun hn => by
 obtain ⟨b,o,e,hlt,hc⟩:=h hn
 exact ⟨b,o,e,Nat.lt_of_lt_of_le hlt hb.size,fun j u hu => (hb.cell (p:=⟨b,o + j,none⟩) hlt).trans (hc j u hu)⟩
theorem Ts.nil : Ts w A []:=fun h => absurd h (by simp)
theorem Ts.of (h : Times w A ts) : Ts w A ts:=fun hn => by
 obtain ⟨b,e,hlt,hc⟩:=h hn
 exact ⟨b,0,e,hlt,fun j u hu => by rw [Nat.zero_add];exact hc j u hu⟩
theorem rowS_take (ts : List St) (k : Nat) : rowS (ts.take k) = (rowS ts).take (k * 5):=by
 induction ts generalizing k with
 | nil => simp [rowS]
 | cons t ts ih =>
   cases k with
   | zero => simp [rowS]
   | succ k => rw [List.take_succ_cons,rowS_cons,rowS_cons,ih,show (k + 1) * 5 = k * 5 + 1 + 1 + 1 + 1 + 1 by omega];simp only [List.take_succ_cons]
theorem rowS_drop (ts : List St) (k : Nat) : rowS (ts.drop k) = (rowS ts).drop (k * 5):=by
 induction ts generalizing k with
 | nil => simp [rowS]
 | cons t ts ih =>
   cases k with
   | zero => simp
   | succ k => rw [List.drop_succ_cons,ih,rowS_cons,show (k + 1) * 5 = k * 5 + 1 + 1 + 1 + 1 + 1 by omega];simp only [List.drop_succ_cons]
theorem Ts.take (h : Ts w A ts) (k : Nat) : Ts w A (ts.take k):=fun hn => by
 obtain ⟨b,o,e,hlt,hc⟩:=h (by rw [List.length_take] at hn;omega)
 refine ⟨b,o,e,hlt,fun j u hu => hc j u ?_⟩
 rw [rowS_take,List.getElem?_take] at hu
 split at hu
 · exact hu
 · cases hu
theorem Ts.drop {b o : Nat} (h : Ts w (some ⟨b,o,none⟩) ts) (k : Nat) : Ts w (some ⟨b,o + k * 5,none⟩) (ts.drop k):=fun hn => by
 obtain ⟨b',o',e,hlt,hc⟩:=h (by rw [List.length_drop] at hn;omega)
 cases e
 refine ⟨b,o + k * 5,rfl,hlt,fun j u hu => ?_⟩
 rw [rowS_drop,List.getElem?_drop] at hu
 rw [Nat.add_assoc];exact hc _ u hu
theorem run_load_st (w : World) (b o : Nat) (t : St) (h : ∀ j v,t.cells[j]? = some v → w.cell? ⟨b,o + j,none⟩ = some v) :
 (Instr.loadAt 27 (.pointer (some ⟨b,o,none⟩))).run Tryz.prog w = .ok (.agg #[.int .i64 t.d,.int .i64 t.e,.int .i64 t.x,.int .i64 t.y,.int .i64 t.z]) w :=
 run_loadAt_part b o 27 _ t.cells (fun j v hj => by rw [add_at];exact h j v hj) Tryz.underlying27 rfl (by kernel_rfl)
theorem Ts.load (h : Ts w A ts) {i : Nat} {t : St} (hi : ts[i]? = some t) : ∃ b o,A = some ⟨b,o,none⟩ ∧ b < w.heap.size ∧
 ∀ w',Below w.heap.size w w' → (Instr.loadAt 27 (.pointer (some ⟨b,o + i * 5,none⟩))).run Tryz.prog w' = .ok (.agg #[.int .i64 t.d,.int .i64 t.e,.int .i64 t.x,.int .i64 t.y,.int .i64 t.z]) w':=by
 obtain ⟨hl,_⟩:=List.getElem?_eq_some_iff.1 hi
 obtain ⟨b,o,e,hlt,hc⟩:=h (by omega)
 refine ⟨b,o,e,hlt,fun w' hb => run_load_st _ _ _ _ fun j v hj => ?_⟩
 rw [hb.cell (p:=⟨b,o + i * 5 + j,none⟩) hlt,Nat.add_assoc]
 exact hc _ v (rowS_at ts i t hi j v hj)
theorem Ts.five (h : Ts w A ts) {i : Nat} {t : St} (hi : ts[i]? = some t) : ∃ b o,A = some ⟨b,o,none⟩ ∧ b < w.heap.size ∧
 ∀ w',Below w.heap.size w w' → w'.cell? ⟨b,o + i * 5,none⟩ = some (.int .i64 t.d) ∧ w'.cell? ⟨b,o + i * 5 + 1,none⟩ = some (.int .i64 t.e) ∧ w'.cell? ⟨b,o + i * 5 + 2,none⟩ = some (.int .i64 t.x) ∧ w'.cell? ⟨b,o + i * 5 + 3,none⟩ = some (.int .i64 t.y) ∧ w'.cell? ⟨b,o + i * 5 + 4,none⟩ = some (.int .i64 t.z):=by
 obtain ⟨hl,_⟩:=List.getElem?_eq_some_iff.1 hi
 obtain ⟨b,o,e,hlt,hc⟩:=h (by omega)
 refine ⟨b,o,e,hlt,fun w' hb => ?_⟩
 have key : ∀ j v,t.cells[j]? = some v → w'.cell? ⟨b,o + i * 5 + j,none⟩ = some v:=fun j v hj => by
  rw [hb.cell (p:=⟨b,o + i * 5 + j,none⟩) hlt,Nat.add_assoc]
  exact hc _ v (rowS_at ts i t hi j v hj)
 exact ⟨key 0 _ rfl,key 1 _ rfl,key 2 _ rfl,key 3 _ rfl,key 4 _ rfl⟩
end
def Tells (g : Nat) (lb : Array Value) (p : St → Bool) (w : World) : Prop :=
 ∀ (W : World) (x : St),Below w.heap.size w W → Calls Tryz.prog g (#[x.val] ++ lb) W fun e w' => e = .returned (.bool (p x)) ∧ Below W.heap.size W w'
theorem any_false {p : St → Bool} {ts : List St} : ts.any p = false ↔ ∀ (j : Nat) (t : St),ts[j]? = some t → p t = false:=by
 rw [List.any_eq_false]
 constructor
 · intro h j t ht
   have:=h t (List.mem_of_getElem? ht)
   simpa using this
 · intro h t ht
   obtain ⟨j,hj⟩:=List.getElem?_of_mem ht
   rw [h j t hj];simp
theorem indexFunc_any (A : Option Addr) (ts : List St) (c g : Nat) (lb : Array Value) (p : St → Bool) (w : World) (hT : Ts w A ts) (hn : ts.length ≤ 200000000)
 (eg : ∀ args w,(callFunc g args).run Tryz.prog w = .ok (.enter g args) w) (hp : 0 < ts.length → Tells g lb p w) :
 Calls Tryz.prog 123 #[.slice A ts.length c,.func (.func g) #[] lb] w fun e w' => (∃ i : Int,e = .returned (.int .i64 i) ∧ decide (0 ≤ i) = ts.any p) ∧ Below w.heap.size w w':=by
 have HT:=Hd hT;have HP:=Hd hp;clear hT hp
 go_enter Tryz.func123,Tryz.ntmps123
 go_wp2_with fail
 go_loopw [5,8] (fun _ i wr => ∃ k : Nat,k ≤ ts.length ∧ i = .int .i64 k ∧ Below w.heap.size w wr ∧ ∀ (j : Nat) (t : St),j < k → ts[j]? = some t → p t = false) (fun _ i _ => ts.length - (intOf i).toNat)
 case atStart => exact ⟨0,by omega,rfl,Below.refl _ _,fun j t h => absurd h (by omega)⟩
 case round =>
  obtain ⟨k,hk,rfl,hb,hno⟩:=hrel
  have HB:=Hd hb;have HNO:=Hd hno;clear hb hno
  by_cases hlt : k < ts.length
  · have hltz : (k : Int) < (ts.length : Int):=by omega
    obtain ⟨t,ht⟩ : ∃ t,ts[k]? = some t:=⟨_,List.getElem?_eq_getElem hlt⟩
    obtain ⟨b,o,rfl,hbl,hld⟩:=HT.out.five ht
    obtain ⟨c0,c1,c2,c3,c4⟩:=hld _ HB.out
    have hcall:=HP.out (by omega) wr t HB.out
    have HTT:=Hd ht;clear ht
    cases hq : p t with
    | true =>
      rw [hq] at hcall
      have HQ:=Hd hq;clear hq
      go_wp2_with fail
      refine hcall.mono ?_;rintro e w1 ⟨rfl,hb1⟩
      have HB1:=Hd (HB.out.trans (hb1.mono HB.out.size));clear hb1 hld hcall c0 c1 c2 c3 c4
      go_wp2_with fail
      go_ret
      refine ⟨⟨k,rfl,?_⟩,HB1.out⟩
      rw [decide_eq_true (by omega),eq_comm,List.any_eq_true]
      exact ⟨t,List.mem_of_getElem? HTT.out,HQ.out⟩
    | false =>
      rw [hq] at hcall
      have HQ:=Hd hq;clear hq
      go_wp2_with fail
      refine hcall.mono ?_;rintro e w1 ⟨rfl,hb1⟩
      have HB1:=Hd (HB.out.trans (hb1.mono HB.out.size));clear hb1 hld hcall c0 c1 c2 c3 c4
      go_wp2_with fail
      go_roundw
      case rel =>
       refine ⟨k + 1,by omega,by simp,HB1.out,fun j t' hj ht' => ?_⟩
       by_cases e : j = k
       · subst e
         rw [HTT.out] at ht';cases ht'
         exact HQ.out
       · exact HNO.out j t' (by omega) ht'
      case measure => simp [intOf];omega
  · have hltz : ¬ (k : Int) < (ts.length : Int):=by omega
    go_wp2_with fail
    go_ret
    refine ⟨⟨-1,rfl,?_⟩,HB.out⟩
    rw [decide_eq_false (by omega),eq_comm,any_false]
    exact fun j t ht => HNO.out j t (by have:=(List.getElem?_eq_some_iff.1 ht).1;omega) ht
theorem containsFunc_any (A : Option Addr) (ts : List St) (c g : Nat) (lb : Array Value) (p : St → Bool) (w : World) (hT : Ts w A ts) (hn : ts.length ≤ 200000000)
 (eg : ∀ args w,(callFunc g args).run Tryz.prog w = .ok (.enter g args) w) (hp : 0 < ts.length → Tells g lb p w) :
 Calls Tryz.prog 71 #[.slice A ts.length c,.func (.func g) #[] lb] w fun e w' => e = .returned (.bool (ts.any p)) ∧ Below w.heap.size w w':=by
 have H:=Hd (indexFunc_any A ts c g lb p w hT hn eg hp);clear hT hp eg
 go_enter Tryz.func71,Tryz.ntmps71
 go_wp2_with fail
 refine (H.out).mono ?_;rintro e w1 ⟨⟨i,rfl,hi⟩,hb⟩
 have HB:=Hd hb;clear hb
 have HI:=Hd hi;clear hi
 go_wp2_with fail
 go_ret
 exact ⟨ret_bool HI.out,HB.out⟩
end

section
theorem reachedC (B : Nat) (t : St) (w : World) (hB : Holds w B t) : Tells 121 #[.pointer (some ⟨B,0,none⟩)] (fun x => decide (x.L t)) w:=by
 intro W x hb
 show Calls _ _ #[x.val,.pointer (some ⟨B,0,none⟩)] _ (fun e w' => e = .returned (.bool (decide (x.L t))) ∧ Below W.heap.size W w')
 have h:=hB.below hb
 have hc:=fun w => leq_any x t w
 generalize decide (x.L t) = v at *
 have hl:=h.lt
 obtain ⟨c0,c1,c2,c3,c4⟩:=h.cells5
 unfold St.val at *
 have HC:=Hd hc;clear hc h hB hb
 go_enter Tryz.func121,Tryz.ntmps121
 go_wp2_with fail
 refine (HC.out _).mono ?_;rintro e w1 ⟨rfl,hb1⟩
 have HB1:=Hd hb1;clear hb1 c0 c1 c2 c3 c4
 go_wp2_with fail
 go_ret
 exact ⟨rfl,((Below.refl _ _).alloc (Nat.le_refl _) _).trans (HB1.out.mono (by simp))⟩
theorem reached_any (A : Option Addr) (ts : List St) (c : Nat) (t : St) (w : World) (hT : Ts w A ts) (hn : ts.length ≤ 200000000) :
 Calls Tryz.prog 69 #[.slice A ts.length c,t.val] w fun e w' => e = .returned (.bool (ts.any fun x => decide (x.L t))) ∧ Below w.heap.size w w':=by
 have hh:=Holds.made w t
 have hc:=containsFunc_any A ts c 121 #[.pointer (some ⟨w.heap.size,0,none⟩)] (fun x => decide (x.L t)) _ (hT.below ((Below.refl _ _).alloc (Nat.le_refl _) _)) hn (enters_of Tryz.func121 (by kernel_rfl) rfl) (fun _ => reachedC w.heap.size t _ hh)
 generalize (ts.any fun x => decide (x.L t)) = v at *
 unfold St.val at *
 have HC:=Hd hc;clear hc hh hT
 go_enter Tryz.func69,Tryz.ntmps69
 go_wp2_with fail
 refine (HC.out).mono ?_;rintro e w1 ⟨rfl,hb1⟩
 have HB1:=Hd hb1;clear hb1
 go_wp2_with fail
 go_ret
 exact ⟨rfl,((Below.refl _ _).alloc (Nat.le_refl _) _).trans (HB1.out.mono (by simp))⟩
end

section
def BoxAt (w : World) (B : Nat) (v : Value) : Prop:=B < w.heap.size ∧ w.cell? ⟨B,0,none⟩ = some v
section
variable {w w' W : World} {B b o n c : Nat} {A : Option Addr} {v : Value} {x y : Operand} {i j : Int} {p : Bool}
theorem BoxAt.below (h : BoxAt w B v) (hb : Below w.heap.size w w') : BoxAt w' B v:=⟨Nat.lt_of_lt_of_le h.1 hb.size,(hb.cell (p:=⟨B,0,none⟩) h.1).trans h.2⟩
theorem BoxAt.made (w : World) (v : Value) (t : TypeId) : BoxAt (w.alloc (.cells #[v] t)) w.heap.size v:=by
 have h : Row (w.alloc (.cells #[v] t)) w.heap.size t [v]:=Row.made w _ _
 exact ⟨h.lt,h.cell 0⟩
theorem load_box (h : BoxAt W B (.slice A n c)) : ∀ w',Below W.heap.size W w' → (Instr.loadAt 34 (.pointer (some ⟨B,0,none⟩))).run Tryz.prog w' = .ok (.slice A n c) w':=by
 intro w' hb
 have hc:=(h.below hb).2
 go_simp
theorem load_at (hb : b < W.heap.size) (h : W.cell? ⟨b,o,none⟩ = some (.int .i64 i)) : ∀ w',Below W.heap.size W w' → (Instr.loadAt 3 (.pointer (some ⟨b,o,none⟩))).run Tryz.prog w' = .ok (.int .i64 i) w':=by
 intro w' hbw
 have hc:=(hbw.cell (p:=⟨b,o,none⟩) hb).trans h
 go_simp
theorem nei_is (h : (i != j) = p) : ∀ w,(do eqGuard .neq 3 x y (.int .i64 i) (.int .i64 j);binOp .neq 3 (.int .i64 i) (.int .i64 j) : Sem Value).run Tryz.prog w = .ok (.bool p) w:=by
 intro w;subst h;go_simp
theorem lti_is (h : decide (i < j) = p) : ∀ w,(do eqGuard .lss 3 x y (.int .i64 i) (.int .i64 j);binOp .lss 3 (.int .i64 i) (.int .i64 j) : Sem Value).run Tryz.prog w = .ok (.bool p) w:=by
 intro w;subst h;go_simp
theorem Ts.first {ts : List St} {z : St} (h : Ts w A (z :: ts)) : ∃ b o,A = some ⟨b,o,none⟩ ∧ b < w.heap.size ∧ w.cell? ⟨b,o,none⟩ = some (.int .i64 z.d):=by
 obtain ⟨b,o,e,hlt,h5⟩:=h.five (i:=0) rfl
 have:=(h5 w (Below.refl _ _)).1
 rw [Nat.zero_mul,Nat.add_zero] at this
 exact ⟨b,o,e,hlt,this⟩
end
end

section
theorem alikeC (B : Nat) (A : Option Addr) (z : St) (ts : List St) (c : Nat) (w : World) (hB : BoxAt w B (.slice A (z :: ts).length c)) (hT : Ts w A (z :: ts)) : Tells 169 #[.pointer (some ⟨B,0,none⟩)] (fun x => !decide x.R || x.d != z.d) w:=by
 intro W x hb
 show Calls _ _ #[x.val,.pointer (some ⟨B,0,none⟩)] _ (fun e w' => e = .returned (.bool (!decide x.R || x.d != z.d)) ∧ Below W.heap.size W w')
 have hbA:=(Below.refl W.heap.size W).alloc (Nat.le_refl _) (.cells #[.int .i64 x.d,.int .i64 x.e,.int .i64 x.x,.int .i64 x.y,.int .i64 x.z] 27)
 have hbox:=(hB.below hb).below hbA
 obtain ⟨b,o,rfl,hbl,h0⟩:=((hT.below hb).below hbA).first
 have hx:=Holds.made W x
 by_cases hR : x.R
 · have hr:=right_is (decide_eq_true hR) (right_any x)
   have hn : 0 < (z :: ts).length:=by simp
   rw [decide_eq_true hR,Bool.not_true,Bool.false_or]
   generalize hv : (x.d != z.d) = v at *
   generalize (z :: ts).length = n at *
   unfold St.val at *
   have HR:=Hd hr;have HX:=Hd hx;have HBX:=Hd hbox;have H0:=Hd (And.intro hbl h0);have HV:=Hd hv;have HA:=Hd hbA
   clear hr hx hbox hbl h0 hv hbA hB hT hb hR
   go_enter Tryz.func169,Tryz.ntmps169
   go_wp2_with fail
   generalize W.alloc (.cells #[.int .i64 x.d,.int .i64 x.e,.int .i64 x.x,.int .i64 x.y,.int .i64 x.z] 27) = w0 at *
   refine wp_region_below (by kernel_rfl) (by kernel_rfl) ?_
   refine wpQuiet_step (fun K hK => ?_);refine q_load (p:=.pointer (some ⟨W.heap.size,0,none⟩)) 27 _ rfl rfl rfl (load_t HX.out) ?_;go_simp;(with_reducible refine hK _ ?_);clear hK K
   refine wpQuiet_step (fun K hK => ?_);go_simp;(with_reducible refine ⟨_,fun _ hb => (HR.out _).mono fun _ _ h => ⟨h.1,hb.trans (h.2.mono (by simpa using hb.size))⟩,hK _ ?_⟩);clear hK K
   iterate 3 (refine wpQuiet_step (fun K hK => ?_);go_simp;(first | (with_reducible refine hK _ ?_) | (with_reducible refine ⟨_,fun _ _ => rfl,hK _ ?_⟩));clear hK K)
   refine wpQuiet_step (fun K hK => ?_);refine q_load (p:=.pointer (some ⟨W.heap.size,0,none⟩)) 3 _ rfl rfl rfl (load_d HX.out) ?_;go_simp;(with_reducible refine hK _ ?_);clear hK K
   refine wpQuiet_step (fun K hK => ?_);refine q_load (p:=.pointer (some ⟨B,0,none⟩)) 34 _ rfl rfl rfl (load_box HBX.out) ?_;go_simp;(with_reducible refine hK _ ?_);clear hK K
   iterate 2 (refine wpQuiet_step (fun K hK => ?_);go_simp;(first | (with_reducible refine hK _ ?_) | (with_reducible refine ⟨_,fun _ _ => rfl,hK _ ?_⟩));clear hK K)
   refine wpQuiet_step (fun K hK => ?_);refine q_load (p:=.pointer (some ⟨b,o,none⟩)) 3 _ rfl rfl rfl (load_at H0.out.1 H0.out.2) ?_;go_simp;(with_reducible refine hK _ ?_);clear hK K
   refine wpQuiet_step (fun K hK => ?_);refine q_bin _ _ _ _ _ rfl rfl rfl rfl (nei_is HV.out) ?_;go_simp;(with_reducible refine hK _ ?_);clear hK K
   iterate 2 (refine wpQuiet_step (fun K hK => ?_);go_simp;(first | (with_reducible refine hK _ ?_) | (with_reducible refine ⟨_,fun _ _ => rfl,hK _ ?_⟩));clear hK K)
   refine wpQuiet_nil ?_
   intro w1 hb1
   go_wp2_with fail
   go_ret
   exact ⟨rfl,HA.out.trans (hb1.mono HA.out.size)⟩
 · have hr:=right_is (decide_eq_false hR) (right_any x)
   rw [decide_eq_false hR,Bool.not_false,Bool.true_or]
   unfold St.val at *
   have HR:=Hd hr;have HX:=Hd hx;have HA:=Hd hbA
   clear hr hx hbox hbl h0 hbA hB hT hb hR
   go_enter Tryz.func169,Tryz.ntmps169
   go_wp2_with fail
   generalize W.alloc (.cells #[.int .i64 x.d,.int .i64 x.e,.int .i64 x.x,.int .i64 x.y,.int .i64 x.z] 27) = w0 at *
   refine wp_region_below (by kernel_rfl) (by kernel_rfl) ?_
   refine wpQuiet_step (fun K hK => ?_);refine q_load (p:=.pointer (some ⟨W.heap.size,0,none⟩)) 27 _ rfl rfl rfl (load_t HX.out) ?_;go_simp;(with_reducible refine hK _ ?_);clear hK K
   refine wpQuiet_step (fun K hK => ?_);go_simp;(with_reducible refine ⟨_,fun _ hb => (HR.out _).mono fun _ _ h => ⟨h.1,hb.trans (h.2.mono (by simpa using hb.size))⟩,hK _ ?_⟩);clear hK K
   refine wpQuiet_step (fun K hK => ?_);go_simp;(first | (with_reducible refine hK _ ?_) | (with_reducible refine ⟨_,fun _ _ => rfl,hK _ ?_⟩));clear hK K
   refine wpQuiet_step (fun K hK => ?_);go_simp;(try (with_reducible refine ⟨_,fun _ _ => rfl,?_⟩));generalize hA : ({ tmps:=_,defers:=_ } : Act) = A;(with_reducible refine hK A ?_);clear hK K
   iterate 7 (refine wpQuiet_step (fun K hK => ?_);subst hA;go_simp;(try (with_reducible refine ⟨_,fun _ _ => rfl,?_⟩));generalize hA : ({ tmps:=_,defers:=_ } : Act) = A;(with_reducible refine hK A ?_);clear hK K)
   refine wpQuiet_step (fun K hK => ?_);subst hA;go_simp;(first | (with_reducible refine hK _ ?_) | (with_reducible refine ⟨_,fun _ _ => rfl,hK _ ?_⟩));clear hK K
   refine wpQuiet_step (fun K hK => ?_);go_simp;(first | (with_reducible refine hK _ ?_) | (with_reducible refine ⟨_,fun _ _ => rfl,hK _ ?_⟩));clear hK K
   refine wpQuiet_nil ?_
   intro w1 hb1
   go_wp2_with fail
   go_ret
   exact ⟨rfl,HA.out.trans (hb1.mono HA.out.size)⟩
instance (l : List St) : Decidable (Even l):=inferInstanceAs (Decidable (∀ x ∈ l,x.R ∧ ∀ y ∈ l,x.d = y.d))
theorem even_any (z : St) (ts : List St) : (!(z :: ts).any fun x => !decide x.R || x.d != z.d) = decide (Even (z :: ts)):=by
 rw [Bool.eq_iff_iff,Bool.not_eq_true',List.any_eq_false,decide_eq_true_iff]
 simp only [Bool.or_eq_true,Bool.not_eq_true',decide_eq_false_iff_not,bne_iff_ne,ne_eq,not_or,Decidable.not_not]
 constructor
 · intro h x hx
   exact ⟨(h x hx).1,fun y hy => (h x hx).2.trans (h y hy).2.symm⟩
 · intro h x hx
   exact ⟨(h x hx).1,(h x hx).2 z List.mem_cons_self⟩
theorem alike_any (A : Option Addr) (ts : List St) (c : Nat) (w : World) (hT : Ts w A ts) (hn : ts.length ≤ 200000000) :
 Calls Tryz.prog 107 #[.slice A ts.length c] w fun e w' => e = .returned (.bool (decide (Even ts))) ∧ Below w.heap.size w w':=by
 obtain ⟨v,hv,hc⟩ : ∃ v,(!v) = decide (Even ts) ∧ Calls Tryz.prog 71 #[.slice A ts.length c,.func (.func 169) #[] #[.pointer (some ⟨w.heap.size,0,none⟩)]] (w.alloc (.cells #[.slice A ts.length c] 34)) fun e w' => e = .returned (.bool v) ∧ Below (w.alloc (.cells #[.slice A ts.length c] 34)).heap.size (w.alloc (.cells #[.slice A ts.length c] 34)) w':=by
  have hb:=(Below.refl w.heap.size w).alloc (Nat.le_refl _) (.cells #[.slice A ts.length c] 34)
  cases ts with
  | nil => exact ⟨false,(decide_eq_true (fun x hx => absurd hx (by simp))).symm,containsFunc_any A [] c 169 _ (fun _ => false) _ (hT.below hb) hn (enters_of Tryz.func169 (by kernel_rfl) rfl) (fun h => absurd h (by simp))⟩
  | cons z ts => exact ⟨_,even_any z ts,containsFunc_any A (z :: ts) c 169 _ _ _ (hT.below hb) hn (enters_of Tryz.func169 (by kernel_rfl) rfl) (fun _ => alikeC _ A z ts c _ (BoxAt.made w _ _) (hT.below hb))⟩
 rw [← hv]
 have HC:=Hd hc;clear hc hT hv
 go_enter Tryz.func107,Tryz.ntmps107
 go_wp2_with fail
 refine (HC.out).mono ?_;rintro e w1 ⟨rfl,hb1⟩
 have HB1:=Hd hb1;clear hb1
 go_wp2_with fail
 go_ret
 exact ⟨rfl,((Below.refl _ _).alloc (Nat.le_refl _) _).trans (HB1.out.mono (by simp))⟩
end

section
def Rises (ts : List St) : Prop:=∀ (j : Nat) (t u : St),ts[j]? = some t → ts[j + 1]? = some u → ¬ u.C t < 0
noncomputable instance (ts : List St) : Decidable (Rises ts):=Classical.propDecidable _
end

section
noncomputable instance (ts : List St) : Decidable (Fr ts):=Classical.propDecidable _
theorem L_C (t u : St) (h : t.L u) : ¬ u.C t < 0:=by
 have h1:=St.L_C h
 have h2:=St.C_swap (a:=t) (b:=u)
 omega
end

section
noncomputable instance (a b : List St) : Decidable (Alike a b):=Classical.propDecidable _
end

section
end

section
section
variable {a b c f g l m : List St} {s t x y z : St}
/-! in whatever order -/
/-! with a time more -/
end
end

section
instance (l : List St) (t : St) : Decidable (Up l t):=inferInstanceAs (Decidable (∃ x ∈ l,x.L t))
def Inside (f : List St) (t : St) : Prop:=Alike f [t] ∧ ¬ Up f t
noncomputable instance (f : List St) (t : St) : Decidable (Inside f t):=Classical.propDecidable _
def Under (a b : List St) : Prop:=Alike a b ∧ In a b
noncomputable instance (a b : List St) : Decidable (Under a b):=Classical.propDecidable _
end

section
section
variable {l ts : List St} {t x z p : St}
theorem mem_take_at {k : Nat} (h : x ∈ ts.take k) : ∃ j,j < k ∧ ts[j]? = some x:=by
 obtain ⟨j,hj⟩:=List.getElem?_of_mem h
 rw [List.getElem?_take] at hj
 split at hj
 · rename_i hjk;exact ⟨j,hjk,hj⟩
 · cases hj
end
end

section
section
variable {ts : List St} {t x : St}
end
end

section
open Go.ChangeShapes Go.WideShapes Go.ChangeAt Go.RowKit Go.BigFrame Go.Shelf
abbrev RSt:={ t : St // t.R }
def encS (x : RSt) : Array Value:=#[x.1.val]
def raw (l : List RSt) : List St:=l.map (·.1)
theorem raw_length (l : List RSt) : (raw l).length = l.length:=by simp [raw]
theorem raw_get (l : List RSt) (k : Nat) (t : RSt) (h : l[k]? = some t) : (raw l)[k]? = some t.1:=by simp [raw,h]
theorem pre_of {α : Type} {xs : List α} {k : Nat} {t : α} (h : xs[k]? = some t) : xs.take k ++ [t] <+: xs:=by
 have e : xs.take (k + 1) = xs.take k ++ [t]:=by rw [List.take_add_one,h];rfl
 rw [← e];exact List.take_prefix _ _
def Keep (n : Nat) (W W' : World) : Prop:=Below n W W' ∧ ∀ (b : Nat) (o : Obj),W.heap[b]? = some o → o.isCells = true → W'.heap[b]? = some o
theorem keep_t {n : Nat} {A B C : World} (h : Keep n A B) (k : Keep n B C) : Keep n A C:=⟨h.1.trans k.1,fun b o ho hc => k.2 b o (h.2 b o ho hc) hc⟩
theorem keep_b {n : Nat} {w : World} (hn : n ≤ w.heap.size) (W : World) (l : Nat) (o o' : Obj) (hl : w.heap.size ≤ l) (ho : W.heap[l]? = some o) (hc : o.isCells = false) (hw : o.isWalk = false) : Keep n W (W.putObj l o') :=
 ⟨(belowK_b (w:=w) hn) W l o o' hl ho hc hw,fun b p hp hpc => by
   by_cases e : b = l
   · subst e;rw [ho] at hp;cases hp;rw [hc] at hpc;cases hpc
   · exact (World.putObj_heap_other e).trans hp⟩
theorem frGrown_below {w w' : World} (hb : Below w.heap.size w w') : w.grownBy w' none:=⟨hb.os,hb.tape,hb.output,hb.size,fun k hk _ => hb.block k hk⟩
theorem values_any (a : Option Addr) (n c : Nat) (w : World) :
 Calls Tryz.prog 77 #[.slice a n c] w fun e w' => e = .returned (.func (.func 130) #[] #[.pointer (some ⟨w.heap.size,0,none⟩)]) ∧ w' = w.alloc (.cells #[.slice a n c] 34):=by
 go_enter Tryz.func77,Tryz.ntmps77
 go_wp2_with fail
 go_ret
 exact ⟨rfl,rfl⟩
set_option maxRecDepth 100000 in
set_option maxHeartbeats 1000000 in
theorem valuesC (n : Nat) (hn : 1 ≤ n) (Bs : Nat) (A : Option Addr) (xs : List RSt) (hl : xs.length ≤ 200000000) (c : Nat) (w : World) (hB : BoxAt w Bs (.slice A xs.length c)) (hT : Ts w A (raw xs)) :
 SeqStopsK Fence.wide n Tryz.prog 130 #[.pointer (some ⟨Bs,0,none⟩)] encS (Keep w.heap.size) (fun ys => ys = xs) (fun pre => pre <+: xs) xs.length w:=fun l J Jx W hW hJ _ hY h0 => by
 have hBW:=(hB.below hW).2
 have HT:=Hd hT;have HLE:=Hd hW.size;have HJ:=Hd hJ
 clear hB hT hJ
 have HW:=Hd hW;clear hW
 refine callsIn_of_wp Tryz.func130 rfl trivial ?_ rfl
 simp only [Tryz.ntmps130,List.size_toArray,List.length_cons,List.length_nil,Nat.reduceAdd,Nat.reduceSub,Array.replicate_succ,Array.replicate_zero,List.push_toArray,List.append_toArray,List.nil_append,List.cons_append]
 gi_wp2
 gi_loopw [7] (fun i wr => ∃ k : Nat,k ≤ xs.length ∧ i = .int .i64 k ∧ J (xs.take k) wr ∧ Below w.heap.size W wr) (fun i _ => xs.length - (intOf i).toNat)
 case atStart => exact ⟨0,Nat.zero_le _,rfl,h0,Below.refl _ _⟩
 case round =>
  obtain ⟨k,hk,rfl,hJs,hbel⟩:=hrel
  by_cases hlt : k < xs.length
  · obtain ⟨t,ht⟩ : ∃ t,xs[k]? = some t:=⟨_,List.getElem?_eq_getElem hlt⟩
    have hsz:=hbel.size
    have hJ2 : J (xs.take k) (wr.alloc (.cells #[.int .i64 t.1.d,.int .i64 t.1.e,.int .i64 t.1.x,.int .i64 t.1.y,.int .i64 t.1.z] 27)):=HJ.out _ _ _ none hJs (World.grownBy_alloc _ _ none) (fun r e => by cases e)
    obtain ⟨fn,tmps,assign,body,hy,hR⟩:=hY _ t _ hJ2 (by rw [List.length_take];omega)
    dsimp only [encS] at hy
    unfold St.val at hy
    have hb2 : Below w.heap.size W (wr.alloc (.cells #[.int .i64 t.1.d,.int .i64 t.1.e,.int .i64 t.1.x,.int .i64 t.1.y,.int .i64 t.1.z] 27)):=hbel.alloc (Nat.le_trans HLE.out hsz) _
    obtain ⟨b,o,rfl,hbl,h5⟩:=(HT.out).five (raw_get xs k t ht)
    obtain ⟨c0,c1,c2,c3,c4⟩:=h5 wr (HW.out.trans hbel)
    have HBL:=Hd hbel;have HB2:=Hd hb2;have HTT:=Hd ht
    clear h5 hbl hbel hb2 ht h0
    gi_wp2
    refine hR.mono ?_
    rintro e W3 (⟨rfl,hJ3,hk3⟩ | ⟨rfl,hJx3⟩)
    · have HB3:=Hd (HB2.out.trans hk3.1)
      clear hk3
      gi_wp2
      go_roundw
      case rel => exact ⟨k + 1,by omega,by simp,by rw [List.take_add_one,HTT.out];exact hJ3,HB3.out⟩
      case measure => simp only [intOf];omega
    · gi_wp2
      refine bodyPost_ret (results_none rfl _ _ _) rfl ?_
      exact ⟨⟨_,rfl⟩,.inr ⟨_,pre_of HTT.out,hJx3⟩⟩
  · have hk' : k = xs.length:=by omega
    subst hk'
    have hJ' : J xs wr:=by rwa [List.take_length] at hJs
    clear hJs
    gi_wp2
    go_end0
    exact ⟨⟨_,rfl⟩,.inl ⟨_,rfl,hJ'⟩⟩
structure Pairs (a b : List St) (zs : List RSt) : Prop where
 len : zs.length = a.length * b.length
 at_ : ∀ (k j : Nat) (x y : St),a[k]? = some x → b[j]? = some y → ∃ z : RSt,zs[k * b.length + j]? = some z ∧ z.1 = x.join y ∧ x.B y
end

section
open Go.ChangeShapes Go.WideShapes Go.ChangeAt Go.RowKit Go.BigFrame Go.Shelf
open Go.Maps (Keyed)
open Go.WideElems (Fit rd rg rd_key rd_val rg_of)
open Go.ChangeMaps (notKey putKey)
@[reducible] def St.key (t : St) : Value:=.agg #[.int .i64 t.x,.int .i64 t.y,.int .i64 t.z]
def dat (t : St) : DataW Unit:=.agg [.lit (.int .i64 t.d),.lit (.int .i64 t.e),.lit (.int .i64 t.x),.lit (.int .i64 t.y),.lit (.int .i64 t.z)]
theorem val_inj {s t : St} (h : s.val = t.val) : s = t:=by
 simp only [St.val,Value.agg.injEq,Array.mk.injEq,List.cons.injEq,Value.int.injEq,true_and,and_true] at h
 exact St.ext' h.1 h.2.1 h.2.2.1 h.2.2.2.1 h.2.2.2.2
open Classical in
noncomputable def elS (v : Value) : Option (DataW Unit × List MemPlace):=if h : ∃ t : St,v = t.val then some (dat h.choose,[]) else none
theorem elS_val (t : St) : elS t.val = some (dat t,[]):=by
 have h : ∃ s : St,t.val = s.val:=⟨t,rfl⟩
 unfold elS
 rw [dif_pos h,← val_inj h.choose_spec]
theorem elS_inv {v : Value} {y : DataW Unit × List MemPlace} (h : elS v = some y) : ∃ t : St,v = t.val ∧ y = (dat t,[]):=by
 unfold elS at h
 split at h
 · rename_i hx
   cases h
   exact ⟨_,hx.choose_spec,rfl⟩
 · cases h
theorem dat_inj {s t : St} (h : dat s = dat t) : s = t:=by
 unfold dat at h
 simp at h
 exact St.ext' h.1 h.2.1 h.2.2.1 h.2.2.2.1 h.2.2.2.2
theorem key_inj {s t : St} : s.key = t.key ↔ s.x = t.x ∧ s.y = t.y ∧ s.z = t.z:=by simp [St.key]
theorem keyed3 : Keyed Tryz.prog 25:=Keyed.of_law (deep_law_laid progLaid (m:=5) (by decide) (of_decide_eq_true (by kernel_rfl)) (by kernel_rfl) (by kernel_rfl))
theorem wf_of {n : Int} (h1 : 0 ≤ n) (h2 : n < 16) : (Lit.int .i64 n).wf = true:=by
 simp [Lit.wf,IntKind.min,IntKind.max,IntKind.signed,IntKind.bits];omega
theorem keyLits3 (d : Nat) {x y z : Int} (hx : (Lit.int .i64 x).wf = true) (hy : (Lit.int .i64 y).wf = true) (hz : (Lit.int .i64 z).wf = true) :
 Tryz.prog.keyLits (d + 2) 25 [.int .i64 x,.int .i64 y,.int .i64 z] = some [.int .i64 x,.int .i64 y,.int .i64 z]:=by
 simp [Program.keyLits,Tryz.underlying25,Tryz.underlying3,cells_arr,stCells_int,List.range_succ,hx,hy,hz]
theorem keyOf_some {t : St} (h : t.R) : ∃ l,keyOf Tryz.prog 25 t.key = some l:=by
 have h0 : decide (0 < Tryz.prog.types.size) = true:=by kernel_rfl
 have h0:=of_decide_eq_true h0
 obtain ⟨m,hm⟩ : ∃ m,Tryz.prog.types.size = m + 1:=⟨Tryz.prog.types.size - 1,by omega⟩
 have hk : Tryz.prog.keyType 25 = true:=by kernel_rfl
 unfold St.R at h
 unfold keyOf
 rw [Tryz.underlying25,hm]
 simp [hk,Value.formed,Tryz.underlying25,cells_arr,St.key,Value.cells]
 rw [keyLits3 m (wf_of (by omega) (by omega)) (wf_of (by omega) (by omega)) (wf_of (by omega) (by omega))]
 exact ⟨_,_,rfl,rfl⟩
noncomputable def kl (t : St) : Lit:=(keyOf Tryz.prog 25 t.key).getD (.bool false)
theorem keyOf_kl {t : St} (h : t.R) : keyOf Tryz.prog 25 t.key = some (kl t):=by
 obtain ⟨l,hl⟩:=keyOf_some h
 unfold kl;rw [hl];rfl
theorem kl_inj {s t : St} (hs : s.R) (ht : t.R) (h : kl s = kl t) : s.key = t.key:=keyed3.inj (keyOf_kl hs) (by rw [h];exact keyOf_kl ht)
theorem kl_key {s t : St} (h : s.key = t.key) : kl s = kl t:=by unfold kl;rw [h]
noncomputable def ent (t : St) : Lit × DataW Unit:=(kl t,dat t)
def MapS (w : World) (b n : Nat) (E : List St) : Prop :=
 (∃ L,w.ownsMap Tryz.prog 25 elS b n (.map L) ∧ L.Perm (E.map ent)) ∧ (∀ t ∈ E,t.R) ∧ E.Pairwise fun s t => s.key ≠ t.key
def putS (t : St) (E : List St) : List St:=t :: E.filter fun u => decide (¬ (u.x = t.x ∧ u.y = t.y ∧ u.z = t.z))
section
variable {w w' : World} {b n : Nat} {E : List St} {row : Option Nat}
theorem MapS.made (w : World) : MapS (w.alloc (.map #[] 0)) w.heap.size 0 []:=⟨⟨[],World.ownsMap_made _ _ _ _,.refl _⟩,by simp,List.Pairwise.nil⟩
theorem MapS.kept (h : MapS w b n E) (hg : w.grownBy w' row) (hne : some b ≠ row) : MapS w' b n E:=by
 obtain ⟨⟨L,h1,h2⟩,h3⟩:=h
 exact ⟨⟨L,h1.kept hg hne,h2⟩,h3⟩
theorem MapS.lt (h : MapS w b n E) : b < w.heap.size:=by
 obtain ⟨⟨L,h1,h2⟩,h3⟩:=h
 exact h1.lt
theorem MapS.alloc (h : MapS w b n E) (o : Obj) : MapS (w.alloc o) b n E:=h.kept (World.grownBy_alloc w o none) (by simp)
theorem MapS.look (h : MapS w b n E) {t : St} (ht : t.R) :
 ((Instr.lookup 168 (.map (some b)) t.key true).run Tryz.prog w = .ok (.tuple #[St.zero.val,.bool false]) w ∧ ∀ u ∈ E,u.key ≠ t.key) ∨
 ∃ u ∈ E,u.key = t.key ∧ (Instr.lookup 168 (.map (some b)) t.key true).run Tryz.prog w = .ok (.tuple #[u.val,.bool true]) w:=by
 obtain ⟨⟨L,⟨es,clock,hb,F,_,hD⟩,hp⟩,hR,_⟩:=h
 have hL : L = (es.toList.map (rg Tryz.prog 25 elS)).foldr DataW.insert []:=by injection hD
 have hpe : (es.toList.map (rg Tryz.prog 25 elS)).Perm (E.map ent):=((sorted_perm _).symm.trans (by rw [← hL])).trans hp
 have hz : (zeroValue 27).run Tryz.prog w = .ok St.zero.val w:=Tryz.zeroValue27 w
 rcases Go.Maps.fit_look true keyed3 Tryz.underlying168 hz hb F (keyOf_kl ht) with ⟨hrun,hno,_⟩ | ⟨e0,y,hm,hk,hrun,hR0,_,_⟩
 · refine .inl ⟨hrun,fun u hu hk => ?_⟩
   have : ent u ∈ es.toList.map (rg Tryz.prog 25 elS):=hpe.mem_iff.2 (List.mem_map_of_mem hu)
   obtain ⟨x,hx,he⟩:=List.mem_map.1 this
   obtain ⟨y,hy⟩:=F.reads x hx
   rw [rg_of hy] at he
   subst he
   refine hno x hx ?_
   rw [← hk]
   exact keyed3.inj (rd_key hy) (keyOf_kl (hR u hu))
 · obtain ⟨u,hu,rfl⟩:=elS_inv hR0
   refine .inr ⟨u,?_,?_,by rw [hu] at hrun;exact hrun⟩
   all_goals
    obtain ⟨y,hy⟩:=F.reads e0 hm
    have h1:=rd_key hy
    obtain ⟨z,h2,h3⟩:=rd_val hy
    rw [hR0] at h2;cases h2
    have : y ∈ E.map ent:=hpe.mem_iff.1 (List.mem_map.2 ⟨e0,hm,rg_of hy⟩)
    obtain ⟨u',hu',e⟩:=List.mem_map.1 this
    have h3' : y.2 = dat u:=h3
    have hd : dat u' = dat u:=by rw [← h3',← e];rfl
    have:=dat_inj hd
    subst this
   · exact hu'
   · have h4 : y.1 = kl u':=by rw [← e];rfl
     rw [hk] at h1
     exact keyed3.inj (keyOf_kl (hR u' hu')) (by rw [h1,h4])
theorem MapS.store (h : MapS w b n E) (hn : n < maxLen) {t : St} (ht : t.R) :
 ∃ w',(Instr.mapUpdate 168 (.map (some b)) t.key t.val).run Tryz.prog w = .ok () w' ∧ MapS w' b (n + 1) (putS t E) ∧ w.grownBy w' (some b):=by
 obtain ⟨⟨L,h1,hp⟩,hR,hd⟩:=h
 obtain ⟨w',hrun,h2,hg⟩:=h1.update keyed3 Tryz.underlying168 hn (keyOf_kl ht) (elS_val t)
 rw [DataW.put_eq] at h2
 refine ⟨w',hrun,⟨⟨_,h2,?_⟩,?_,?_⟩,hg⟩
 · unfold putKey putS
   refine (insert_perm _ _).trans ?_
   rw [List.map_cons]
   refine List.Perm.cons _ ?_
   refine (hp.filter _).trans ?_
   rw [List.filter_map]
   have : (notKey (kl t) ∘ ent) = fun u => notKey (kl t) (ent u):=rfl
   rw [this]
   refine List.Perm.of_eq ?_
   congr 1
   refine List.filter_congr fun u hu => ?_
   rw [Bool.eq_iff_iff,decide_eq_true_iff,Go.Maps.notKey_iff (keyed3.key (keyOf_kl ht))]
   rw [← key_inj]
   constructor
   · intro h e;exact h (kl_key e)
   · intro h e;exact h (kl_inj (hR u hu) ht e)
 · intro u hu
   rcases List.mem_cons.1 hu with rfl | hu
   · exact ht
   · exact hR u (List.mem_filter.1 hu).1
 · refine List.pairwise_cons.2 ⟨fun u hu => ?_,hd.filter _⟩
   have:=(List.mem_filter.1 hu).2
   rw [decide_eq_true_iff,← key_inj] at this
   exact fun e => this e.symm
end
end

section
open Go.ChangeShapes Go.WideShapes Go.ChangeAt Go.RowKit Go.BigFrame Go.Shelf
attribute [local go_sem] Oper.semAt_some
structure Ear (xs E : List St) : Prop where
 sub : ∀ e ∈ E,e ∈ xs
 all : ∀ t ∈ xs,∃ e ∈ E,e.key = t.key ∧ e.e ≤ t.e
section
variable {xs E : List St} {x u : St}
theorem mem_putS : u ∈ putS x E ↔ u = x ∨ u ∈ E ∧ u.key ≠ x.key:=by
 unfold putS
 rw [List.mem_cons,List.mem_filter,decide_eq_true_iff,← key_inj]
theorem Ear.put (h : Ear xs E) (hl : ∀ u ∈ E,u.key = x.key → x.e ≤ u.e) : Ear (xs ++ [x]) (putS x E):=by
 refine ⟨fun e he => ?_,fun t ht => ?_⟩
 · rcases mem_putS.1 he with rfl | ⟨he,_⟩
   · simp
   · exact List.mem_append_left _ (h.sub e he)
 · rcases List.mem_append.1 ht with ht | ht
   · obtain ⟨e,he,hk,hle⟩:=h.all t ht
     by_cases hx : e.key = x.key
     · exact ⟨x,mem_putS.2 (.inl rfl),hx.symm.trans hk,Int.le_trans (hl e he hx) hle⟩
     · exact ⟨e,mem_putS.2 (.inr ⟨he,hx⟩),hk,hle⟩
   · have : t = x:=by simpa using ht
     subst this
     exact ⟨t,mem_putS.2 (.inl rfl),rfl,Int.le_refl _⟩
theorem Ear.stay (h : Ear xs E) (hu : u ∈ E) (hk : u.key = x.key) (hl : u.e ≤ x.e) : Ear (xs ++ [x]) E:=by
 refine ⟨fun e he => List.mem_append_left _ (h.sub e he),fun t ht => ?_⟩
 rcases List.mem_append.1 ht with ht | ht
 · exact h.all t ht
 · have : t = x:=by simpa using ht
   subst this
   exact ⟨u,hu,hk,hl⟩
theorem Keep.alloc {n : Nat} {A B : World} (h : Keep n A B) (hn : n ≤ B.heap.size) (o : Obj) : Keep n A (B.alloc o) :=
 ⟨h.1.alloc hn o,fun b p hp hc => (Below.heap_alloc B o b (Array.getElem?_eq_some_iff.1 (h.2 b p hp hc)).1).trans (h.2 b p hp hc)⟩
theorem Keep.refl (n : Nat) (A : World) : Keep n A A:=⟨Below.refl _ _,fun b p hp _ => hp⟩
theorem MapS.isMap {w : World} {b n : Nat} (h : MapS w b n E) : ∃ es c,w.heap[b]? = some (.map es c):=by
 obtain ⟨⟨L,⟨es,clock,hb,_⟩,_⟩,_⟩:=h
 exact ⟨es,clock,hb⟩
theorem MapS.mono {w : World} {b n m : Nat} (h : MapS w b n E) (hm : n ≤ m) : MapS w b m E:=by
 obtain ⟨⟨L,h1,h2⟩,h3⟩:=h
 exact ⟨⟨L,h1.mono hm,h2⟩,h3⟩
theorem Keep.grown {n b m : Nat} {A B C : World} (h : Keep n A B) (hM : MapS B b m E) (hg : B.grownBy C (some b)) (hn : n ≤ b) : Keep n A C :=
 ⟨h.1.grown hg (Nat.le_trans hn (Nat.le_of_lt hM.lt)) (fun k e => by cases e;exact hn),fun k p hp hc => by
  have h1:=h.2 k p hp hc
  by_cases e : k = b
  · subst e
    obtain ⟨es,c,hm⟩:=hM.isMap
    rw [h1] at hm;cases hm;cases hc
  · exact (hg.block k (Array.getElem?_eq_some_iff.1 h1).1 (fun h => e (by cases h;rfl))).trans h1⟩
end
theorem key_one : ∀ {E : List St} {u v : St},E.Pairwise (fun s t => s.key ≠ t.key) → u ∈ E → v ∈ E → u.key = v.key → u = v
 | [],_,_,_,h,_,_ => by cases h
 | x :: E,u,v,hp,hu,hv,hk => by
   obtain ⟨h1,h2⟩:=List.pairwise_cons.1 hp
   rcases List.mem_cons.1 hu with e1 | k1 <;> rcases List.mem_cons.1 hv with e2 | k2
   · rw [e1,e2]
   · rw [e1] at hk;exact absurd hk (h1 v k2)
   · rw [e2] at hk;exact absurd hk.symm (h1 u k1)
   · exact key_one h2 k1 k2 hk
theorem putS_len {E : List St} {t : St} : (putS t E).length ≤ E.length + 1:=by
 unfold putS
 rw [List.length_cons]
 have:=List.length_filter_le (fun u : St => decide (¬ (u.x = t.x ∧ u.y = t.y ∧ u.z = t.z))) E
 omega
def EarI (w : World) (pre : List RSt) (W : World) : Prop:=∃ E,Boxed W (w.heap.size + 1) 168 (.map (some w.heap.size)) ∧ MapS W w.heap.size pre.length E ∧ Ear (raw pre) E ∧ E.length ≤ pre.length
set_option maxRecDepth 100000 in
set_option maxHeartbeats 4000000 in
theorem earliest_any (g n₀ N : Nat) (lb : Array Value) (S Sp : List RSt → Prop) (hN : N ≤ 200000000) (w0 w : World) (hb0 : Below w0.heap.size w0 w) (hn₀ : n₀ ≤ w0.heap.size) (eg : ∀ args w,(callFunc g args).run Tryz.prog w = .ok (.enter g args) w)
 (hS : ∀ xs,S xs → xs.length ≤ 200000000) (hseq : ∀ n,1 ≤ n → SeqStopsK Fence.wide n Tryz.prog g lb encS (Keep n₀) S Sp N w0) :
 Calls Tryz.prog 128 #[.func (.func g) #[] lb] w fun e W' => e = .returned (.map (some w.heap.size)) ∧ (∃ xs E m,S xs ∧ MapS W' w.heap.size m E ∧ Ear (raw xs) E ∧ E.length ≤ 200000000) ∧ Below w.heap.size w W':=by
 refine (callsIn_wide (n:=5)).1 ?_
 have hmm:=@run_makeMap Tryz.prog
 refine callsIn_of_wp_marks Tryz.func128 rfl trivial ?_ rfl
 simp only [Tryz.ntmps128,List.size_toArray,List.length_cons,List.length_nil,Nat.reduceAdd,Nat.reduceSub,Array.replicate_succ,Array.replicate_zero,List.push_toArray,List.append_toArray,List.nil_append,List.cons_append]
 gi_wp2
 have hsz : ((w.alloc (.map #[] 0)).alloc (.cells #[.map (some w.heap.size)] 168)).heap.size = w.heap.size + 2:=by simp
 have bM:=Boxed.new (w.alloc (.map #[] 0)) 168 (.map (some w.heap.size))
 rw [size_alloc] at bM
 have hM:=(MapS.made w).alloc (.cells #[.map (some w.heap.size)] 168)
 have hB0 : Below w.heap.size w ((w.alloc (.map #[] 0)).alloc (.cells #[.map (some w.heap.size)] 168)):=((Below.refl _ w).alloc (Nat.le_refl _) _).alloc (by simp) _
 have hK0 : Below w0.heap.size w0 ((w.alloc (.map #[] 0)).alloc (.cells #[.map (some w.heap.size)] 168)):=(hb0.alloc hb0.size _).alloc (by have:=hb0.size;simp;omega) _
 have hws:=hb0.size
 obtain ⟨W0,hW0⟩ : ∃ W0,(w.alloc (.map #[] 0)).alloc (.cells #[.map (some w.heap.size)] 168) = W0:=⟨_,rfl⟩
 rw [hW0] at hsz bM hM hB0 hK0 ⊢
 clear hW0 hb0
 refine wpIn_rangeFunc_ownH rfl (by omega) (gf:=g) (lb:=lb) rfl trivial eg (hseq 4 (by omega)) keep_t (keep_b (by omega)) hK0 (fun _ => rfl)
  (fun pre W => EarI w pre W ∧ Below w.heap.size w W)
  (fun _ _ _ => False)
  (OwnFrom.and (fun s X Y row hs hg hr => by
    obtain ⟨E,h1,h2,h3⟩:=hs
    exact ⟨E,boxed_own _ _ (fun (_ : Unit) => Value.map (some w.heap.size)) () X Y row h1 hg (fun r e => (hr r e).2),h2.kept hg (fun e => by have:=(hr _ e.symm).1;omega),h3⟩) (ownFrom_below (Nat.le_refl _) (by omega)))
  (fun _ _ _ _ _ hs _ _ => hs)
  ⟨⟨[],bM,hM,⟨by simp,by simp [raw]⟩,by simp⟩,hB0⟩
  (fun x a' W => ∃ Bx,w.heap.size + 1 < Bx ∧ Holds W Bx x.1 ∧ a' = { tmps:=#[.func (.func g) #[] lb,undef,.map none,.pointer (some ⟨w.heap.size + 1,0,none⟩),.pointer (some ⟨Bx,0,none⟩),undef,undef,.map (some w.heap.size),.func (.func g) #[] lb,.agg #[.int .i64 x.1.d,.int .i64 x.1.e,.int .i64 x.1.x,.int .i64 x.1.y,.int .i64 x.1.z],undef,undef,undef,undef,undef,undef,undef,undef,undef,undef,undef,undef,undef,undef,undef,undef,undef,undef,undef,undef,undef],defers:=[] })
  (fun x a' _ X Y row hs hg hr => by
    obtain ⟨Bx,h1,h2,h3⟩:=hs
    refine ⟨Bx,h1,Row.grown h2 hg (fun e => ?_),h3⟩
    obtain ⟨_,o,ho,hc⟩:=hr Bx e.symm
    have h4 : X.heap[Bx]? = _:=h2
    rw [h4] at ho;cases ho;cases hc)
  ?assign ?body ?done ?stop
 case assign =>
  rintro l pre x W K ⟨⟨E,bM1,hM1,hE⟩,hB1⟩ hK
  clear hmm
  dsimp only [encS] at *
  unfold St.val at *
  gi_wp2
  exact hK _ _ ((KeepsOthers.alloc _ _).from _) ((Keep.refl _ W).alloc (by have:=hB1.size;omega) _) ⟨⟨E,bM1.alloc _,hM1.alloc _,hE⟩,hB1.alloc hB1.size _⟩ ⟨W.heap.size,bM1.lt,Holds.made W x.1,rfl⟩
 case body =>
  rintro l pre x a' W hl ⟨r,hr⟩ ⟨⟨E,bM1,hM1,hE,hEl⟩,hB1⟩ ⟨Bx,hBx,bX,rfl⟩ hlt
  have hsW:=hB1.size
  have hnW : n₀ ≤ W.heap.size:=by omega
  have cM:=bM1.cell
  have hBl:=bX.lt
  have hml:=bM1.lt
  obtain ⟨c0,c1,c2,c3,c4⟩:=bX.cells5
  have hlen : (raw (pre ++ [x])) = raw pre ++ [x.1]:=by simp [raw]
  rcases hM1.look x.2 with ⟨hrun,hno⟩ | ⟨u,hu,hk,hrun⟩
  · obtain ⟨w1,hst,hM2,hg⟩:=(hM1.alloc (.cells #[.int .i64 0,.int .i64 0,.int .i64 0,.int .i64 0,.int .i64 0] 27)).store (by unfold maxLen;omega) x.2
    unfold St.key St.zero St.val at *
    have HM1:=Hd hM1;have HM2:=Hd hM2;have HG:=Hd hg;have HE:=Hd (And.intro hE hEl);have HNO:=Hd hno;have HBM:=Hd bM1;have HB1:=Hd hB1
    clear hM1 hM2 hg hE hEl hno bM1 bX hB1 hmm hr hseq eg hB0 hK0
    gi_wp2
    have hW1 : KeepsFrom (w.heap.size + 2) W (W.alloc (.cells #[.int .i64 0,.int .i64 0,.int .i64 0,.int .i64 0,.int .i64 0] 27)):=(KeepsOthers.alloc _ _).from _
    have hW2:=(Keep.refl n₀ W).alloc hnW (.cells #[.int .i64 0,.int .i64 0,.int .i64 0,.int .i64 0,.int .i64 0] 27)
    refine ⟨by first | exact hW1.trans (KeepsFrom.of_grownBy HG.out (fun j e => by cases e;omega)) | (rw [hsz];exact hW1.trans (KeepsFrom.of_grownBy HG.out (fun j e => by cases e;omega))),hW2.grown (HM1.out.alloc _) HG.out (by omega),⟨⟨_,(HBM.out.alloc _).kept HG.out (by simp),by rw [List.length_append];exact HM2.out,?_,?_⟩,(HB1.out.alloc hsW _).grown HG.out (by simp;omega) (fun k e => by cases e;exact Nat.le_refl _)⟩⟩
    · rw [hlen]
      exact HE.out.1.put fun v hv hk => absurd hk (HNO.out v hv)
    · rw [List.length_append]
      have:=putS_len (t:=x.1) (E:=E)
      have:=HE.out.2
      simp;omega
  · by_cases hlt2 : x.1.e < u.e
    · obtain ⟨w1,hst,hM2,hg⟩:=(hM1.alloc (.cells #[.int .i64 u.d,.int .i64 u.e,.int .i64 u.x,.int .i64 u.y,.int .i64 u.z] 27)).store (by unfold maxLen;omega) x.2
      have hd:=hM1.2.2
      unfold St.key St.val at *
      have HM1:=Hd hM1;have HM2:=Hd hM2;have HG:=Hd hg;have HE:=Hd (And.intro hE hEl);have HD:=Hd (And.intro hd (And.intro hu hk));have HBM:=Hd bM1;have HB1:=Hd hB1
      clear hM1 hM2 hg hE hEl hd hu hk bM1 bX hB1 hmm hr hseq eg hB0 hK0
      gi_wp2
      have hW1 : KeepsFrom (w.heap.size + 2) W (W.alloc (.cells #[.int .i64 u.d,.int .i64 u.e,.int .i64 u.x,.int .i64 u.y,.int .i64 u.z] 27)):=(KeepsOthers.alloc _ _).from _
      have hW2:=(Keep.refl n₀ W).alloc hnW (.cells #[.int .i64 u.d,.int .i64 u.e,.int .i64 u.x,.int .i64 u.y,.int .i64 u.z] 27)
      refine ⟨by first | exact hW1.trans (KeepsFrom.of_grownBy HG.out (fun j e => by cases e;omega)) | (rw [hsz];exact hW1.trans (KeepsFrom.of_grownBy HG.out (fun j e => by cases e;omega))),hW2.grown (HM1.out.alloc _) HG.out (by omega),⟨⟨_,(HBM.out.alloc _).kept HG.out (by simp),by rw [List.length_append];exact HM2.out,?_,?_⟩,(HB1.out.alloc hsW _).grown HG.out (by simp;omega) (fun k e => by cases e;exact Nat.le_refl _)⟩⟩
      · rw [hlen]
        refine HE.out.1.put fun v hv hk => ?_
        obtain ⟨hd,hu,hku⟩:=HD.out
        by_cases e : v = u
        · subst e;omega
        · exfalso
          exact e (key_one (E:=E) hd hv hu (show v.key = u.key from hk.trans hku.symm))
      · rw [List.length_append]
        have:=putS_len (t:=x.1) (E:=E)
        have:=HE.out.2
        simp;omega
    · unfold St.key St.val at *
      have HM1:=Hd hM1;have HE:=Hd (And.intro hE hEl);have HD:=Hd (And.intro hu hk);have HBM:=Hd bM1;have HB1:=Hd hB1
      clear hM1 hE hEl hu hk bM1 bX hB1 hmm hr hseq eg hB0 hK0
      gi_wp2
      refine ⟨(KeepsOthers.alloc _ _).from _,(Keep.refl n₀ W).alloc hnW _,⟨⟨E,HBM.out.alloc _,(HM1.out.alloc _).mono (by simp),?_,?_⟩,HB1.out.alloc hsW _⟩⟩
      · rw [hlen];exact HE.out.1.stay HD.out.1 HD.out.2 (by omega)
      · rw [List.length_append];have:=HE.out.2;omega
 case done =>
  rintro D ys W hD hys ⟨⟨E,bM1,hM1,hE,hEl⟩,hB1⟩ hK
  have cM:=bM1.cell
  have HM1:=Hd hM1;have HE:=Hd hE;have HB1:=Hd hB1;have HK:=Hd hK
  clear hM1 hE bM1 hB1 hmm hseq eg hB0 hK0 hK
  gi_wp2
  refine ⟨by simp,.inl ⟨_,_,rfl,run_takeDeferred HK.out,?_⟩⟩
  have hlD : w.heap.size < D:=by omega
  refine ⟨_,results_tmp rfl _ _ _,rfl,⟨ys,E,_,hys,HM1.out.kept (grownBy_putObj' _ D _) (fun e => by cases e;omega),HE.out,by have:=hS _ hys;omega⟩,HB1.out.trans (belowK_b (w:=w) (Nat.le_refl _) W D _ _ (by omega) HK.out rfl rfl)⟩
 case stop =>
  rintro D c pre W _ _ h _
  exact h.elim
end

section
open Go.ChangeShapes Go.WideShapes Go.ChangeAt Go.RowKit Go.BigFrame Go.Shelf
theorem mvalues_any (b : Option Nat) (w : World) :
 Calls Tryz.prog 127 #[.map b] w fun e w' => e = .returned (.func (.func 175) #[] #[.pointer (some ⟨w.heap.size,0,none⟩)]) ∧ w' = w.alloc (.cells #[.map b] 168):=by
 go_enter Tryz.func127,Tryz.ntmps127
 go_wp2_with fail
 go_ret
 exact ⟨rfl,rfl⟩
structure Col (E : List St) (left : Lit → Bool) (xs : List RSt) : Prop where
 sub : ∀ t ∈ raw xs,t ∈ E
 nodup : (raw xs).Nodup
 all : ∀ e ∈ E,left (kl e) = true ∨ e ∈ raw xs
 gone : ∀ t ∈ raw xs,left (kl t) = false
section
variable {E : List St} {L : List (Lit × DataW Unit)} {left : Lit → Bool} {xs : List RSt}
theorem kl_lit {t : St} (h : t.R) : WideAt.IsKeyLit (kl t):=keyed3.key (keyOf_kl h)
theorem Col.start (hp : L.Perm (E.map ent)) (hR : ∀ t ∈ E,t.R) : Col E (Go.Maps.has (.map L)) []:=by
 refine ⟨by simp [raw],by simp [raw],fun e he => .inl ?_,by simp [raw]⟩
 rw [Go.Maps.has_eq,List.any_eq_true]
 exact ⟨ent e,hp.mem_iff.2 (List.mem_map_of_mem he),WideAt.sameKey_self (kl_lit (hR e he))⟩
theorem map_at {k : Lit} {c : St} (hp : L.Perm (E.map ent)) (hat : ∀ zd,(DataW.map L).atKey k zd = dat c) : c ∈ E ∧ kl c = k:=by
 have h1 : Go.Maps.has (.map L) k = true:=Go.Maps.has_true_of_atKey hat
 rw [Go.Maps.has_eq,List.any_eq_true] at h1
 have h2:=hat .nil
 unfold DataW.atKey at h2
 dsimp only at h2
 cases hf : L.find? (fun p => p.1.sameKey k) with
 | none =>
   rw [List.find?_eq_none] at hf
   obtain ⟨p,hp1,hp2⟩:=h1
   exact absurd hp2 (hf p hp1)
 | some p =>
   rw [hf] at h2
   dsimp only at h2
   have hs:=List.find?_some hf
   obtain ⟨u,hu,e⟩:=List.mem_map.1 (hp.mem_iff.1 (List.mem_of_find?_eq_some hf))
   have h3 : dat u = dat c:=by rw [← h2,← e];rfl
   have h4:=dat_inj h3
   subst h4
   refine ⟨hu,?_⟩
   have h5:=WideAt.sameKey_eq hs
   rw [← e] at h5
   exact h5
theorem Col.step (h : Col E left xs) (hp : L.Perm (E.map ent)) (hR : ∀ t ∈ E,t.R) (hd : E.Pairwise fun s t => s.key ≠ t.key) {k : Lit} (c : RSt) (hl : left k = true) (hat : ∀ zd,(DataW.map L).atKey k zd = dat c.1) :
 Col E (fun z => left z && !z.sameKey k) (xs ++ [c]):=by
 obtain ⟨hc,hk⟩:=map_at hp hat
 have hr : raw (xs ++ [c]) = raw xs ++ [c.1]:=by simp [raw]
 have hself : k.sameKey k = true:=by rw [← hk];exact WideAt.sameKey_self (kl_lit (hR _ hc))
 refine ⟨?_,?_,?_,?_⟩
 · intro t ht
   rw [hr] at ht
   rcases List.mem_append.1 ht with ht | ht
   · exact h.sub t ht
   · rw [List.mem_singleton] at ht;subst ht;exact hc
 · rw [hr,List.nodup_append]
   refine ⟨h.nodup,by simp,fun a ha b hb e => ?_⟩
   rw [List.mem_singleton] at hb
   subst hb;subst e
   have:=h.gone _ ha
   rw [hk,hl] at this;cases this
 · intro e he
   rw [hr]
   by_cases hs : (kl e).sameKey k = true
   · refine .inr (List.mem_append_right _ ?_)
     have h1 : kl e = kl c.1:=(WideAt.sameKey_eq hs).trans hk.symm
     rw [key_one hd he hc (kl_inj (hR e he) (hR _ hc) h1)]
     simp
   · rcases h.all e he with h1 | h1
     · refine .inl ?_
       simp [h1,hs]
     · exact .inr (List.mem_append_left _ h1)
 · intro t ht
   rw [hr] at ht
   rcases List.mem_append.1 ht with ht | ht
   · simp [h.gone t ht]
   · rw [List.mem_singleton] at ht;subst ht
     rw [hk,hself];simp
end
def frAllOf (E : List St) (xs : List RSt) : Prop:=(raw xs).Nodup ∧ ∀ t,t ∈ raw xs ↔ t ∈ E
theorem Col.done {E : List St} {left : Lit → Bool} {xs : List RSt} (h : Col E left xs) (hl : ∀ k,left k = false) : frAllOf E xs :=
 ⟨h.nodup,fun t => ⟨h.sub t,fun ht => by
  rcases h.all t ht with h1 | h1
  · rw [hl] at h1;cases h1
  · exact h1⟩⟩
set_option maxRecDepth 100000 in
set_option maxHeartbeats 2000000 in
theorem mvaluesC (n : Nat) (hn : 1 ≤ n) (Bm b nn : Nat) (E : List St) (hEl : E.length ≤ 200000000) (w : World) (hBm : BoxAt w Bm (.map (some b))) (hM : MapS w b nn E) :
 SeqStopsK Fence.wide n Tryz.prog 175 #[.pointer (some ⟨Bm,0,none⟩)] encS KeepsWalks (frAllOf E) (fun _ => True) E.length w:=fun l J Jx W hW hJ _ hY h0 => by
 have hm:=(hBm.below hW).2
 obtain ⟨⟨L,hown,hp⟩,hR,hd⟩:=hM
 have hown : W.ownsMap Tryz.prog 25 elS b nn (.map L):=by
  have hbl:=hown.lt
  obtain ⟨es,clock,hb,Ft,hs,hD⟩:=hown
  exact ⟨es,clock,(hW.block b hbl).trans hb,Ft,hs,hD⟩
 have hsize : Go.Maps.size (DataW.map L) = E.length:=by
  rw [Go.Maps.size_eq,hp.length_eq,List.length_map]
 have HP:=Hd (And.intro hp (And.intro hR hd));have HJ:=Hd hJ
 have hcol:=Col.start hp hR
 clear hp hR hd hJ hBm hW
 refine callsIn_of_wp Tryz.func175 rfl trivial ?_ rfl
 simp only [Tryz.ntmps175,List.size_toArray,List.length_cons,List.length_nil,Nat.reduceAdd,Nat.reduceSub,Array.replicate_succ,Array.replicate_zero,List.push_toArray,List.append_toArray,List.nil_append,List.cons_append]
 gi_wp2_with (first
  | (gi_at_range;refine wpListIn_range_own _ rfl _ 168 rfl 25 27 keyed3 Tryz.underlying168 elS b nn _ rfl hown ?_;intro w0 hrg0 hg0 hs0)
  | gi_in)
 go_frame
 gi_loopw [4] (fun _ wr => ∃ (left : Lit → Bool) (cnt : Nat) (xs : List RSt),wr.ranges Tryz.prog 25 elS b W.heap.size nn (.map L) left cnt ∧ xs.length + cnt ≤ E.length ∧ Col E left xs ∧ J xs wr)
  (fun _ wr => wr.rangeLeft b W.heap.size)
 case atStart =>
  exact ⟨_,_,[],hrg0,by rw [hsize];simp,hcol,HJ.out [] W w0 none h0 hg0 (fun r e => by cases e)⟩
 case round =>
  obtain ⟨left,cnt,xs,hrg,hcs,hC,hJs⟩:=hrel
  clear hcol hrg0 hg0 hs0 hm h0
  have HC:=Hd hC;clear hC
  gi_wp2_with (first
   | (gi_at_next;refine wpListIn_next_ranges _ rfl _ rfl 25 keyed3 elS id St.val (fun key kl _ => ⟨key,rfl⟩) (fun v y hv => by obtain ⟨t,rfl,_⟩:=elS_inv hv;exact ⟨t,rfl⟩) b W.heap.size nn _ _ _ rfl hrg ?_ ?_)
   | gi_in)
  · intro hc0 hl0
    have H:=Hd (HC.out.done hl0)
    gi_wp2
    go_end0
    exact ⟨⟨_,rfl⟩,.inl ⟨xs,H.out,hJs⟩⟩
  · intro x c kl0 yd yp w2 cnt2 hkey hlk hv hat hrg2 hlt hg2 hs2 hen
    obtain ⟨c',ec,ez⟩:=elS_inv hv
    obtain rfl:=val_inj ec
    obtain rfl : yd = dat c:=(Prod.mk.inj ez).1
    clear ez
    have hc:=(map_at HP.out.1 hat).1
    have hJ2 : J xs w2:=HJ.out xs wr w2 (some W.heap.size) hJs hg2 (fun r e => by cases e;exact ⟨Nat.le_refl _,hrg.iter_walk⟩)
    have hJ3 : J xs (w2.alloc (.cells #[.int .i64 c.d,.int .i64 c.e,.int .i64 c.x,.int .i64 c.y,.int .i64 c.z] 27)):=HJ.out _ _ _ none hJ2 (World.grownBy_alloc _ _ none) (fun r e => by cases e)
    obtain ⟨fn,tmps,assign,body,hy,hR⟩:=hY xs ⟨c,HP.out.2.1 c hc⟩ _ hJ3 (by omega)
    dsimp only [encS] at hy
    have hC2:=HC.out.step HP.out.1 HP.out.2.1 HP.out.2.2 ⟨c,HP.out.2.1 c hc⟩ hlk hat
    have hrg3:=hrg2.of_walks (KeepsWalks.alloc w2 (.cells #[.int .i64 c.d,.int .i64 c.e,.int .i64 c.x,.int .i64 c.y,.int .i64 c.z] 27))
    have HC2:=Hd hC2;have HRG:=Hd hrg3;have HR:=Hd hR;have HRG0:=Hd hrg
    unfold St.val at *
    clear hs2 hC2 hrg3 hR hrg hrg2 hkey hlk hv hat hg2 hJ2 hJ3 hJs ec HC
    gi_wp2
    refine HR.out.mono ?_
    rintro e W3 (⟨rfl,hJ3,hk3⟩ | ⟨rfl,hJx3⟩)
    · have hrg4:=HRG.out.of_walks hk3
      have HRG4:=Hd hrg4;clear hrg4 hk3
      gi_wp2
      go_roundw
      case rel => exact ⟨_,cnt2,xs ++ [⟨c,_⟩],HRG4.out,by rw [List.length_append];simp;omega,HC2.out,hJ3⟩
      case measure => rw [HRG4.out.left_eq,HRG0.out.left_eq];exact hlt
    · gi_wp2
      refine bodyPost_ret (results_none rfl _ _ _) rfl ?_
      exact ⟨⟨_,rfl⟩,.inr ⟨_,trivial,hJx3⟩⟩
end
end Go.Proofs.YtonelpnhoiajgaaGreatDoor
