import Derived.Test.YtonelpnhoiajgaaGreatDoorHd
import Derived.Test.YtonelpnhoiajgaaGreatDoorCa17
import Derived.Test.YtonelpnhoiajgaaGreatDoorCa5
import Derived.Test.YtonelpnhoiajgaaGreatDoorCa4
import Derived.Test.YtonelpnhoiajgaaGreatDoorCa13
import Derived.Test.YtonelpnhoiajgaaGreatDoorCa2
import Derived.RegionCalls
import Derived.Test.YtonelpnhoiajgaaGreatDoorCa16
import Derived.Maps.OwnIn
import Derived.DeepKeys4
import Derived.Maps.RangeWalk
import Derived.Test.YtonelpnhoiajgaaGreatDoorCa0
import Derived.Test.YtonelpnhoiajgaaGreatDoorCa1
import Derived.Test.YtonelpnhoiajgaaGreatDoorCa10
namespace Go.Proofs.YtonelpnhoiajgaaGreatDoor
set_option linter.unusedSimpArgs false
set_option linter.unusedVariables false
set_option maxRecDepth 100000
open Go.ChangeShapes Go.WideShapes Go.ChangeAt Go.RowKit Go.BigFrame
section
theorem updb_mono {b : Nat → Bool} {i j : Nat} (h : b j = true) : Free.updb b i j = true:=by
 by_cases e : j = i
 · subst e;exact Free.updb_self
 · rw [Free.updb_ne e];exact h
structure CoK (q : GPar) (w1 : World) (v0 : Value) (M : List St) (X bu : Nat) (nd : Int) (x : Pl) (u : St) (b : Nat → Bool) (vs : Nat → Value) (w : World) : Prop where
 a : b 7 = false → Gat q w v0 ∧ OwnT q w v0 M ∧ Row w X 50 x.cells ∧ Row w bu 27 u.cells
 o6 : b 6 = true → b 1 = true ∧ b 3 = true ∧ b 4 = true ∧ b 5 = true
 o7 : b 7 = true → b 0 = true ∧ b 6 = true
 o8 : b 8 = true → b 7 = true
 s6 : b 6 = true → b 7 = false → ∃ l,WaysOf (nds q.lg) nd (q.n : Nat) l ∧ ∃ base,w.ownsRow base 27 kindU.K (vs 6) (ofS (appS u l)).length (Rw.row kindU (ofS (appS u l)))
 s7 : b 7 = true → b 8 = false → ∃ l,WaysOf (nds q.lg) nd (q.n : Nat) l ∧ Gat q w v0 ∧ OwnT q w (vs 7) (M ++ ofS (appS u l))
 s8 : b 8 = true → ∃ l v',WaysOf (nds q.lg) nd (q.n : Nat) l ∧ Gat q w v' ∧ OwnT q w v' (M ++ ofS (appS u l))
 sz : q.b1 ≤ w1.heap.size ∧ w1.heap.size ≤ w.heap.size
 kp : Kept w1 w
section
variable {q : GPar} {w1 : World} {v0 v : Value} {M : List St} {X bu i : Nat} {nd : Int} {x : Pl} {u : St} {b : Nat → Bool} {vs : Nat → Value} {w w' : World}
theorem CoK.start (h : Gat q w1 v0) (ho : OwnT q w1 v0 M) (hX : Row w1 X 50 x.cells) (hu : Row w1 bu 27 u.cells) (hs : q.b1 ≤ w1.heap.size) (vs : Nat → Value) : CoK q w1 v0 M X bu nd x u (fun i => decide (9 ≤ i)) vs w1.drew :=
 ⟨fun _ => ⟨h.below (Below.refl _ _).drew,Rw.own_kept ho (Below.refl _ _).drew,hX.drew,hu.drew⟩,fun h => absurd h (by decide),fun h => absurd h (by decide),fun h => absurd h (by decide),fun h => absurd h (by decide),fun h => absurd h (by decide),fun h => absurd h (by decide),⟨hs,Nat.le_refl _⟩,Kept.below (Below.refl _ _).drew⟩
theorem CoK.keep (h : CoK q w1 v0 M X bu nd x u b vs w) (hi : i ≠ 6 ∧ i ≠ 7 ∧ i ≠ 8) : CoK q w1 v0 M X bu nd x u (Free.updb b i) (Free.updw vs i v) w:=by
 have e6 : Free.updb b i 6 = b 6:=Free.updb_ne (Ne.symm hi.1)
 have e7 : Free.updb b i 7 = b 7:=Free.updb_ne (Ne.symm hi.2.1)
 have e8 : Free.updb b i 8 = b 8:=Free.updb_ne (Ne.symm hi.2.2)
 have u6 : Free.updw vs i v 6 = vs 6:=Free.updw_ne (Ne.symm hi.1)
 have u7 : Free.updw vs i v 7 = vs 7:=Free.updw_ne (Ne.symm hi.2.1)
 obtain ⟨h1,h2,h3,h4,h5,h6,h7,h8,h9⟩:=h
 refine ⟨by rw [e7];exact h1,fun k => ?_,fun k => ?_,by rw [e8,e7];exact h4,by rw [e6,e7,u6];exact h5,by rw [e7,e8,u7];exact h6,by rw [e8];exact h7,h8,h9⟩
 · rw [e6] at k
   obtain ⟨a,b,c,d⟩:=h2 k
   exact ⟨updb_mono a,updb_mono b,updb_mono c,updb_mono d⟩
 · rw [e7] at k
   obtain ⟨a,b⟩:=h3 k
   exact ⟨updb_mono a,updb_mono b⟩
theorem CoK.no7 (h : CoK q w1 v0 M X bu nd x u b vs w) (h6 : b 6 = false) : b 7 = false:=by
 cases e : b 7 with
 | false => rfl
 | true => rw [(h.o7 e).2] at h6;cases h6
theorem CoK.no6 (h : CoK q w1 v0 M X bu nd x u b vs w) (hi : b 1 = false ∨ b 3 = false ∨ b 4 = false ∨ b 5 = false) : b 7 = false:=by
 refine h.no7 ?_
 cases e : b 6 with
 | false => rfl
 | true =>
   obtain ⟨k1,k3,k4,k5⟩:=h.o6 e
   rcases hi with k | k | k | k
   · rw [k1] at k;cases k
   · rw [k3] at k;cases k
   · rw [k4] at k;cases k
   · rw [k5] at k;cases k
theorem CoK.no0 (h : CoK q w1 v0 M X bu nd x u b vs w) (h0 : b 0 = false) : b 7 = false:=by
 cases e : b 7 with
 | false => rfl
 | true => rw [(h.o7 e).1] at h0;cases h0
theorem CoK.no8 (h : CoK q w1 v0 M X bu nd x u b vs w) (h7 : b 7 = false) : b 8 = false:=by
 cases e : b 8 with
 | false => rfl
 | true => rw [h.o8 e] at h7;cases h7
theorem CoK.ask (h : CoK q w1 v0 M X bu nd x u b vs w) (hbi : b 6 = false) (hb : b 1 = true ∧ b 3 = true ∧ b 4 = true ∧ b 5 = true) {l : List Sm} (hw : WaysOf (nds q.lg) nd (q.n : Nat) l)
 (ho : w'.ownsRow w.heap.size 27 5 v (ofS (appS u l)).length (rowS (ofS (appS u l)))) (hp : ∃ fs,Pth w' q.base q.p q.F q.A q.c q.lg fs) (ht : Touch (fun k => k = q.F) w w') : CoK q w1 v0 M X bu nd x u (Free.updb b 6) (Free.updw vs 6 v) w':=by
 have b7:=h.no7 hbi
 have b8:=h.no8 b7
 obtain ⟨h1,h2,h3,h4,h5,h6,h7,h8,h9⟩:=h
 obtain ⟨a1,a2,a3,a4⟩:=h1 b7
 obtain ⟨fs,hP⟩:=a1.pth
 have e7 : Free.updb b 6 7 = b 7:=Free.updb_ne (by decide)
 have e8 : Free.updb b 6 8 = b 8:=Free.updb_ne (by decide)
 refine ⟨fun _ => ⟨a1.come hp ht,a2.come a1 ht,a3.touch ht (row_apart a3 hP.fans (by decide)),a4.touch ht (row_apart a4 hP.fans (by decide))⟩,fun _ => ⟨updb_mono hb.1,updb_mono hb.2.1,updb_mono hb.2.2.1,updb_mono hb.2.2.2⟩,?_,?_,fun _ _ => ⟨l,hw,_,by rw [Free.updw_self];exact ho⟩,?_,?_,⟨h8.1,Nat.le_trans h8.2 ht.size⟩,h9.trans (Kept.touch hP.fans ht)⟩
 · rw [e7,b7];intro k;cases k
 · rw [e8,b8];intro k;cases k
 · rw [e7,b7];intro k;cases k
 · rw [e8,b8];intro k;cases k
theorem CoK.add (h : CoK q w1 v0 M X bu nd x u b vs w) (hk : GOk q) (hbi : b 7 = false) (h0 : b 0 = true) (hb6 : b 6 = true) (hM : M.length ≤ 600000000) (ty : TypeId) :
 ∃ v' w',(Builtin.append_ #[34,34] ty #[v0,vs 6]).run Tryz.prog w = .ok v' w' ∧ CoK q w1 v0 M X bu nd x u (Free.updb b 7) (Free.updw vs 7 v') w':=by
 have b8:=h.no8 hbi
 obtain ⟨h1,h2,h3,h4,h5,h6,h7,h8,h9⟩:=h
 obtain ⟨a1,a2,a3,a4⟩:=h1 hbi
 obtain ⟨l,hw,ho⟩:=h5 hb6 hbi
 have hlen : (ofS (appS u l)).length ≤ 4194304:=by have:=ofS_len (appS u l);have:=appS_len u l;have:=hw.len;omega
 obtain ⟨v',w',hr,r2,r3⟩:=a2.append (Nat.le_trans h8.1 h8.2) (ofS (appS u l)) ho (by omega) ty
 have e8 : Free.updb b 7 8 = b 8:=Free.updb_ne (by decide)
 refine ⟨v',w',hr,?_,fun _ => ?_,fun _ => ⟨updb_mono h0,updb_mono hb6⟩,?_,?_,fun _ _ => ⟨l,hw,a1.grown hk a2 r3,by rw [Free.updw_self];exact r2⟩,?_,⟨h8.1,Nat.le_trans h8.2 r3.size⟩,h9.trans (Kept.grown a2 r3)⟩
 · rw [Free.updb_self];intro k;cases k
 · obtain ⟨k1,k2,k3,k4⟩:=h2 hb6
   exact ⟨updb_mono k1,updb_mono k2,updb_mono k3,updb_mono k4⟩
 · rw [e8,b8];intro k;cases k
 · rw [Free.updb_self];intro _ k;cases k
 · rw [e8,b8];intro k;cases k
theorem CoK.put (h : CoK q w1 v0 M X bu nd x u b vs w) (hk : GOk q) (hbi : b 8 = false) (hb7 : b 7 = true) : Row w q.Bt 34 [v0] ∧ CoK q w1 v0 M X bu nd x u (Free.updb b 8) (Free.updw vs 8 undef) (w.setCell ⟨q.Bt,0,none⟩ (vs 7)):=by
 obtain ⟨h1,h2,h3,h4,h5,h6,h7,h8,h9⟩:=h
 obtain ⟨l,hw,a1,a2⟩:=h6 hb7 hbi
 have e7 : Free.updb b 8 7 = b 7:=Free.updb_ne (by decide)
 have e6 : Free.updb b 8 6 = b 6:=Free.updb_ne (by decide)
 refine ⟨a1.tb,?_,fun k => ?_,fun _ => ?_,fun _ => updb_mono hb7,?_,?_,fun _ => ⟨l,_,hw,a1.store hk _,a2.store a1 _⟩,⟨h8.1,by simpa using h8.2⟩,h9.trans (Kept.store a1 _)⟩
 · rw [e7,hb7];intro k;cases k
 · rw [e6] at k
   obtain ⟨a,b,c,d⟩:=h2 k
   exact ⟨updb_mono a,updb_mono b,updb_mono c,updb_mono d⟩
 · obtain ⟨a,b⟩:=h3 hb7
   exact ⟨updb_mono a,updb_mono b⟩
 · rw [e7,hb7];intro _ k;cases k
 · rw [Free.updb_self];intro _ k;cases k
theorem m_appendS {P : Program} {K : Value → World → Prop} {a : Act} {o : Oper} {v' : Value} (s x : Operand) (t : TypeId) (ho : o.op = .call { callee:=.builtin .append,args:=#[s,x],argTypes:=#[t,t] }) (v y : Value) (hs : a.eval s = v) (hx : a.eval x = y)
 (hr : (Builtin.append_ #[t,t] o.type #[v,y]).run P w = .ok v' w') (h : K v' w') : Free.gets P K ((execOp a.eval o).run P w):=by
 unfold execOp
 simp only [ho,resolve,invoke,builtin,Sem.run_bind,Sem.run_pure,Result.andThen_ok,List.map_toArray,List.map_cons,List.map_nil,hs,hx,hr,Free.gets]
 exact h
end
end

section
def MayNext (g : List Nd) (T : List Nat) (i : Nat) : Prop:=i ∉ T ∧ ∃ x,g[i]? = some x ∧ (x.k = 9 ∨ ∀ z ∈ x.ins,0 ≤ z ∧ z.toNat ∈ T)
noncomputable def nextO (g : List Nd) (T : List Nat) : Option Nat:=firstP (MayNext g T) g.length
def OrdT (g : List Nd) (T : List Nat) : Prop:=∀ (j i : Nat),T[j]? = some i → nextO g (T.take j) = some i
theorem nextO_lt {g : List Nd} {T : List Nat} {i : Nat} (h : nextO g T = some i) : i < g.length ∧ MayNext g T i:=⟨(firstP_some.1 h).1,(firstP_some.1 h).2.1⟩
theorem OrdT.take {g : List Nd} {T : List Nat} (h : OrdT g T) (n : Nat) : OrdT g (T.take n):=fun j i hi => by
 rw [List.getElem?_take] at hi
 split at hi
 · rw [List.take_take,Nat.min_eq_left (by omega)]
   exact h j i hi
 · cases hi
theorem OrdT.lt {g : List Nd} {T : List Nat} (h : OrdT g T) : ∀ x ∈ T,x < g.length:=fun x hx => by
 obtain ⟨j,hj⟩:=List.getElem?_of_mem hx
 exact (nextO_lt (h j x hj)).1
theorem OrdT.nodup {g : List Nd} : ∀ {T : List Nat},OrdT g T → T.Nodup:=by
 intro T h
 rw [List.Nodup,List.pairwise_iff_getElem]
 intro i j hi hj hij e
 have h1:=(nextO_lt (h j T[j] (List.getElem?_eq_getElem hj))).2.1
 apply h1
 rw [← e]
 exact List.mem_of_getElem? (i:=i) (by rw [List.getElem?_take,if_pos hij,List.getElem?_eq_getElem hi])
end

section
end

section
structure WayP (g : List Nd) (i n : Nat) (l : List Sm) : Prop where
 sound : ∀ s ∈ l,Arr g i n s
 cover : ∀ s,Arr g i n s → ∃ y ∈ l,y.L s
 self : waysS l = l
section
variable {g : List Nd} {i n f : Nat} {l m : List Sm} {x z : Nd}
theorem Fine.smOk2 (hg : Fine g) (hx : g[n]? = some x) : x.smOk:=by
 have hp:=(hg n x hx).2.1
 have fed : x.ins.length = 1 → ∃ (j : Nat) (y : Nd),g[j]? = some y ∧ x.d - x.more = y.d:=fun h1 => by
  obtain ⟨v,hv⟩ : ∃ v,x.ins = [v]:=by
   match hxi : x.ins,h1 with
   | [v],_ => exact ⟨v,rfl⟩
  obtain ⟨h0,y,hy,_⟩:=hp.1 v (by rw [hv];exact List.mem_cons_self)
  refine ⟨v.toNat,y,hy,hg.fed hy ⟨x,hx,?_⟩ hx⟩
  rw [hv]
  have : ((v.toNat : Nat) : Int) = v:=by omega
  rw [this];exact List.mem_cons_self
 refine hg.smOk hx (fun h7 => ?_) (fun h8 => ?_)
 · obtain ⟨j,y,hy,e⟩:=fed (by rw [hp.2];unfold Nd.want;rw [if_neg (by omega),if_neg (by omega)])
   have:=hg.deep hy
   have hm : x.more = 1:=by unfold Nd.more;rw [if_pos h7]
   omega
 · obtain ⟨j,y,hy,e⟩:=fed (by rw [hp.2];unfold Nd.want;rw [if_neg (by omega),if_neg (by omega)])
   have:=hg.deep hy
   have hm : x.more = -1:=by unfold Nd.more;rw [if_neg (by omega),if_pos h8]
   omega
end
end

section
section
variable {w : World} {b o : Nat}
theorem ld_times {A : Option Addr} {m c : Nat} (hc : w.cell? ⟨b,o,none⟩ = some (.slice A m c)) : (Instr.loadAt 34 (.pointer (some ⟨b,o,none⟩))).run Tryz.prog w = .ok (.slice A m c) w:=by go_simp
theorem ld_paths {a : Addr} (hc : w.cell? ⟨b,o,none⟩ = some (.pointer (some a))) : (Instr.loadAt 30 (.pointer (some ⟨b,o,none⟩))).run Tryz.prog w = .ok (.pointer (some a)) w:=by go_simp
theorem g_store1 {K : Value → World → Prop} {a : Act} {op : Oper} {p x : Operand} {A : Option Addr} {m c : Nat} {v : Value} (ho : op.op = .store 34 p x) (hp : a.eval p = .pointer (some ⟨b,0,none⟩)) (hx : a.eval x = .slice A m c) (hc : w.cell? ⟨b,0,none⟩ = some v) (hf : w.frozen? ⟨b,0,none⟩ = false) (h : K undef (w.setCell ⟨b,0,none⟩ (.slice A m c))) : Free.gets Tryz.prog K ((execOp a.eval op).run Tryz.prog w):=by
 unfold execOp
 simp only [ho,hp,hx]
 go_simp
 exact h
end
theorem tm_eq (n : Nd) (t : St) : Op.timeR n t = tmR n t:=rfl
def GatD (q : GPar) (w : World) (v : Value) (M : List St) (x : Pl) (e : Ending) (w' : World) : Prop :=
 e = .returned (.tuple #[]) ∧ (∃ v' m,Gat q w' v' ∧ OwnT q w' v' (M ++ m) ∧ SomeT tmR (nds q.lg) [x.pc] q.n m ∧ m.length ≤ 4194305) ∧ Kept w w' ∧ w.heap.size ≤ w'.heap.size
def TmV (q : GPar) (gb go hl gc WS J : Nat) (hd : Bool) (T u : St) (tb : Bool) (y : Gn) (i : Nat) (v : Value) : Prop:=match i with
 | 0 => v = .slice (some ⟨gb,go,none⟩) hl gc
 | 1 => v = .pointer (some ⟨WS,0,none⟩)
 | 2 => v = .int .i64 (J : Nat)
 | 3 => v = .pointer (some ⟨gb,go + J * 5,none⟩)
 | 4 => v = .agg #[.int .u8 (y.nd.k : Nat),.int .u8 (y.nd.a : Nat),.int .i64 y.nd.b,.int .i64 y.nd.d,.slice y.A y.nd.ins.length y.c]
 | 5 => v = .pointer (some ⟨WS,2,none⟩)
 | 6 => v = .agg #[.int .i64 T.d,.int .i64 T.e,.int .i64 T.x,.int .i64 T.y,.int .i64 T.z]
 | 7 => v = .tuple #[.agg #[.int .i64 u.d,.int .i64 u.e,.int .i64 u.x,.int .i64 u.y,.int .i64 u.z],.bool tb]
 | 8 => v = .tuple #[.agg #[.int .i64 u.d,.int .i64 u.e,.int .i64 u.x,.int .i64 u.y,.int .i64 u.z],.bool tb]
 | 9 => v = .agg #[.int .i64 u.d,.int .i64 u.e,.int .i64 u.x,.int .i64 u.y,.int .i64 u.z]
 | 10 => v = .bool tb
 | 11 => True
 | 12 => v = undef
 | _ => v = .bool tb
def CoV (q : GPar) (v0 : Value) (X J : Nat) (u : St) : Nat → Value → Prop
 | 0,v => v = v0
 | 1,v => v = .pointer (some ⟨q.p,0,none⟩)
 | 2,v => v = .pointer (some ⟨X,0,none⟩)
 | 3,v => v = .int .i64 (J : Nat)
 | 4,v => v = .agg #[.int .i64 u.d,.int .i64 u.e,.int .i64 u.x,.int .i64 u.y,.int .i64 u.z]
 | 5,v => v = .int .i64 (q.n : Nat)
 | 8,v => v = undef
 | _,_ => True
set_option maxHeartbeats 16000000 in
theorem gather_any (q : GPar) (hk : GOk q) (v : Value) (M : List St) (nd : Int) (hd : Bool) (T : St) (w : World) (hg : Gat q w v) (ho : OwnT q w v M) (hb1 : q.b1 ≤ w.heap.size) (hx : fitB (nds q.lg) ⟨nd,hd,T⟩ = true) (hM : M.length ≤ 500000000) :
 Calls Tryz.prog 108 #[.agg #[.int .i64 nd,.bool hd,.int .i64 T.d,.int .i64 T.e,.int .i64 T.x,.int .i64 T.y,.int .i64 T.z],.pointer (some ⟨q.Bn,0,none⟩),.pointer (some ⟨q.Bt,0,none⟩),.pointer (some ⟨q.Bg,0,none⟩),.pointer (some ⟨q.Bp,0,none⟩)] w (GatD q w v M ⟨nd,hd,T⟩):=by
 obtain ⟨J,y0,rfl,hy,hTR,hTd,hmk⟩:=fitB_yes hx
 simp only at hTR hTd hmk
 have hi : J < q.lg.length:=by have:=(List.getElem?_eq_some_iff.1 hy).1;rwa [nds_len] at this
 have hlh : q.lh.length = q.lg.length:=by rw [← nds_len,hk.nd,nds_len]
 have hb0 : Below w.heap.size w (w.alloc (.cells #[.int .i64 (J : Nat),.bool hd,.int .i64 T.d,.int .i64 T.e,.int .i64 T.x,.int .i64 T.y,.int .i64 T.z] 50)):=(Below.refl _ _).alloc (Nat.le_refl _) _
 have hx0 : Row (w.alloc (.cells #[.int .i64 (J : Nat),.bool hd,.int .i64 T.d,.int .i64 T.e,.int .i64 T.x,.int .i64 T.y,.int .i64 T.z] 50)) w.heap.size 50 (Pl.cells ⟨(J : Nat),hd,T⟩):=Row.made w _ _
 have hg0:=hg.below hb0
 have ho0 : OwnT q (w.alloc (.cells #[.int .i64 (J : Nat),.bool hd,.int .i64 T.d,.int .i64 T.e,.int .i64 T.x,.int .i64 T.y,.int .i64 T.z] 50)) v M:=Rw.own_kept ho hb0
 have ht0 : Kept w (w.alloc (.cells #[.int .i64 (J : Nat),.bool hd,.int .i64 T.d,.int .i64 T.e,.int .i64 T.x,.int .i64 T.y,.int .i64 T.z] 50)):=Kept.below hb0
 have hs0 : q.b1 ≤ (w.alloc (.cells #[.int .i64 (J : Nat),.bool hd,.int .i64 T.d,.int .i64 T.e,.int .i64 T.x,.int .i64 T.y,.int .i64 T.z] 50)).heap.size:=Nat.le_trans hb1 hb0.size
 obtain ⟨VA,vc,rfl,_⟩:=Rw.Ts.of_own ho
 obtain ⟨WS,hWS⟩ : ∃ WS,w.heap.size = WS:=⟨_,rfl⟩
 have HWS:=Hd hWS
 have HOW:=Hd ho
 have HK:=Hd hk;have HY:=Hd hy;have HTR:=Hd hTR;have HTD:=Hd hTd;have HI:=Hd hi;have HLH:=Hd hlh;have HM:=Hd hM
 have HX:=Hd hx0;have HG:=Hd hg0;have HO:=Hd ho0;have HT:=Hd ht0;have HS:=Hd hs0
 clear hk hy hTR hTd hi hlh hM hx0 hg0 ho0 ht0 hs0 hg ho hb1 hx hmk hb0
 go_enter Tryz.func108,Tryz.ntmps108
 go_upto_region 1 with fail
 rw [hWS] at HX
 clear hWS
 generalize w.alloc (.cells #[.int .i64 (J : Nat),.bool hd,.int .i64 T.d,.int .i64 T.e,.int .i64 T.x,.int .i64 T.y,.int .i64 T.z] 50) = w1 at *
 obtain ⟨QB,hQB⟩ : ∃ QB,(((J : Nat) : Int) == ((q.n : Nat) : Int) && !hd) = QB:=⟨_,rfl⟩
 have HQB:=Hd hQB;clear hQB
 go_cut [16] from 8 to 16 (fun v wx => v = .bool QB ∧ w1 = wx)
 case first =>
  obtain ⟨c0,c1⟩ : w1.cell? ⟨WS,0,none⟩ = some (.int .i64 (J : Nat)) ∧ w1.cell? ⟨WS,1,none⟩ = some (.bool hd):=⟨HX.out.cell 0,HX.out.cell 1⟩
  have d0:=HG.out.nb.cell 0
  simp only [List.getElem?_cons_zero] at d0
  by_cases hq : ((J : Nat) : Int) = ((q.n : Nat) : Int)
  · have hqz : (((J : Nat) : Int) == ((q.n : Nat) : Int)) = true:=by simpa using hq
    cases hd with
    | true =>
      go_wp2_with fail
      go_meet
      case rel => exact ⟨by rw [← HQB.out,hqz];rfl,rfl⟩
    | false =>
      go_wp2_with fail
      go_meet
      case rel => exact ⟨by rw [← HQB.out,hqz];rfl,rfl⟩
  · have hqz : (((J : Nat) : Int) == ((q.n : Nat) : Int)) = false:=by simpa using hq
    go_wp2_with fail
    go_meet
    case rel => exact ⟨by rw [← HQB.out,hqz];rfl,rfl⟩
 case rest =>
 obtain ⟨rfl,rfl⟩:=hcut
 go_upto_if 16 with fail
 go_cut [] from 17 to 21 (fun wx => ∃ v',Gat q wx v' ∧ OwnT q wx v' (M ++ ownT q.n ⟨(J : Nat),hd,T⟩) ∧ Row wx WS 50 (Pl.cells ⟨(J : Nat),hd,T⟩) ∧ Kept w wx ∧ q.b1 ≤ wx.heap.size ∧ WS < wx.heap.size)
 case first =>
  cases QB with
  | true =>
    obtain ⟨hq,hh⟩:=Bool.and_eq_true_iff.1 HQB.out
    have hq : ((J : Nat) : Int) = ((q.n : Nat) : Int):=by simpa using hq
    have hh : hd = false:=by simpa using hh
    subst hh
    have hown : ownT q.n ⟨(J : Nat),false,T⟩ = [T]:=by unfold ownT;rw [if_pos ⟨rfl,hq⟩]
    have HON:=Hd hown
    obtain ⟨t0,f0⟩:=And.intro (HG.out.tb.cell 0) (HG.out.tb.free 0)
    simp only [List.getElem?_cons_zero] at t0
    obtain ⟨c2,c3,c4,c5,c6⟩ : w1.cell? ⟨WS,2,none⟩ = some (.int .i64 T.d) ∧ w1.cell? ⟨WS,3,none⟩ = some (.int .i64 T.e) ∧ w1.cell? ⟨WS,4,none⟩ = some (.int .i64 T.x) ∧ w1.cell? ⟨WS,5,none⟩ = some (.int .i64 T.y) ∧ w1.cell? ⟨WS,6,none⟩ = some (.int .i64 T.z):=⟨HX.out.cell 2,HX.out.cell 3,HX.out.cell 4,HX.out.cell 5,HX.out.cell 6⟩
    have hty:=Rw.Ts.made (κ:=kindU) w1 [T] 27
    have hb2 : Below w1.heap.size w1 (w1.alloc (.cells (Rw.row kindU [T]).toArray 27)):=(Below.refl _ _).alloc (Nat.le_refl _) _
    have HTY:=Hd hty;have HB2:=Hd hb2;clear hty hb2 hq hown
    go_wp2_with (at_builtin;refine Rw.append_own kindU 27 34 Tryz.underlying34 Tryz.infoStamp rfl rfl _ _ rfl q.b1 _ M.length M rfl (World.ownsRow.alloc HO.out _) _ 1 [T] rfl (by simp) HTY.out (by unfold maxLen;have:=HM.out;simp;omega) (by have:=HM.out;simp;omega) (by have:=HS.out;simp;omega) ?_;intro v2 w5 hv2 hg2;obtain ⟨A2,e2,rfl,_⟩:=Rw.Ts.of_own hv2;have hga:=Gat.grown (M:=M) (HG.out.below HB2.out) HK.out (Rw.own_kept HO.out HB2.out) hg2;have hxa:=row_grown (q:=q) (M:=M) (HX.out.below HB2.out HX.out.lt) (Rw.own_kept HO.out HB2.out) hg2 (by decide);have hta:=(HT.out.trans (Kept.below HB2.out)).trans (Kept.grown (q:=q) (M:=M) (Rw.own_kept HO.out HB2.out) hg2);have hsa:=Nat.le_trans HS.out (Nat.le_trans HB2.out.size hg2.size);have k0:=hga.tb.cell 0;have k1:=hga.tb.free 0;simp only [List.getElem?_cons_zero] at k0;have HV:=Hd hv2;have HGA:=Hd hga;have HXA:=Hd hxa;have HTA:=Hd hta;have HSA:=Hd hsa;clear hv2 hg2 hga hxa hta hsa t0 f0 c2 c3 c4 c5 c6)
    go_meet
    case rel =>
     have hst : OwnT q w5 (.slice A2 (M.length + 1) e2) (M ++ [T]):=by have h:=HV.out;rw [← List.length_append] at h;rw [show M.length + 1 = (M ++ [T]).length by simp];exact h
     exact ⟨_,HGA.out.store HK.out _,by rw [HON.out];exact hst.store HGA.out _,row_store HXA.out HGA.out (by decide) _,HTA.out.trans (Kept.store HGA.out _),by simpa using HSA.out,by simpa using HXA.out.lt⟩
  | false =>
    have hown : ownT q.n ⟨(J : Nat),hd,T⟩ = []:=by
     unfold ownT
     rw [if_neg]
     rintro ⟨h1,h2⟩
     simp only at h1 h2
     have:=HQB.out
     subst h1
     rw [h2] at this
     simp at this
    have HON:=Hd hown;clear hown
    go_wp2_with fail
    go_meet
    case rel => exact ⟨_,HG.out,by rw [HON.out,List.append_nil];exact HO.out,HX.out,HT.out,HS.out,HX.out.lt⟩
 case rest =>
  obtain ⟨v1,hg1,ho1,hx1,ht1,hs1,hw1⟩:=hcut
  clear HG HO HX HT HS
  obtain ⟨w3,rfl⟩ : ∃ w3,w3 = wc:=⟨_,rfl⟩
  obtain ⟨y,hyl⟩ : ∃ y,q.lh[J]? = some y:=⟨_,List.getElem?_eq_getElem (by rw [HLH.out];exact HI.out)⟩
  have hyn : y.nd = y0:=by
   have h1 : (nds q.lh)[J]? = some y.nd:=by unfold nds;rw [List.getElem?_map,hyl];rfl
   rw [HK.out.nd,HY.out] at h1;injection h1 with h1;exact h1.symm
  obtain ⟨GA',gc',e,hgr,_⟩:=hg1.gr.gr
  injection e with e1 e2 e3
  subst e1 e3
  obtain ⟨gb,go,hga,_,hln⟩:=hgr.load hyl
  have hgb:=hg1.gb
  rw [hga] at hgb
  have hiz : (J : Int) < (q.lh.length : Int):=by have:=HLH.out;have:=HI.out;omega
  have htm:=fun wa => Op.time_any y.nd y.A y.nd.ins.length y.c T wa
  obtain ⟨r,hr⟩ : ∃ r,tmR y0 T = r:=⟨_,rfl⟩
  rw [tm_eq,show tmR y.nd T = r by rw [hyn,hr]] at htm
  unfold Op.nodeV0 at htm
  obtain ⟨u,hu⟩ : ∃ u,ov r = u:=⟨_,rfl⟩
  obtain ⟨tb,htb⟩ : ∃ tb,r.isSome = tb:=⟨_,rfl⟩
  rw [hu,htb] at htm
  have hm1 : (ownT q.n ⟨(J : Nat),hd,T⟩).length ≤ 1:=ownT_len
  have hone : ∀ l,(∀ u,r = some u → u.R ∧ ∃ ws,WaysOf (nds q.lg) (J : Nat) (q.n : Nat) ws ∧ l = ofS (appS u ws)) → (r = none → l = []) → SomeT tmR (nds q.lg) [Pl.pc ⟨(J : Nat),hd,T⟩] q.n (ownT q.n ⟨(J : Nat),hd,T⟩ ++ l):=fun l h1 h2 =>
   one_some (x:=⟨(J : Nat),hd,T⟩) HK.out.fine rfl HY.out HTR.out (by rw [nds_len];exact HK.out.node) (by rw [hr];exact h1) (by rw [hr];exact h2)
  have hur : r = some u → u.R:=fun e => by
   have h1:=tmR_ok.ap y0 T u (HK.out.fine.smOk2 HY.out) HTD.out (by rw [hr,e])
   exact (Sm.apply_R h1).1
  have HONE:=Hd hone;have HUR:=Hd hur;have HM1:=Hd hm1;have HG1:=Hd hg1;have HO1:=Hd ho1;have HX:=Hd hx1;have HT1:=Hd ht1;have HS1:=Hd hs1;have HGB:=Hd hgb;have HLN:=Hd hln;have HTM:=Hd htm;have HU:=Hd hu;have HTB:=Hd htb;have HW1:=Hd hw1
  clear hone hur hm1 hg1 ho1 hx1 ht1 hs1 hgb hln htm hr hu htb hga hgr hyn hyl HOW hw1
  generalize ownT q.n ⟨(J : Nat),hd,T⟩ = O at *
  generalize q.lh.length = hl at *
  generalize q.gc = gc at *
  unfold St.val at *
  go_upto_region 3 with fail
  rename_i hkont
  have HKONT:=Hd hkont;clear hkont
  refine Free.wp_key (by kernel_rfl) (by kernel_rfl) (PutF w3 11 12 27 [.int .i64 0,.int .i64 0,.int .i64 0,.int .i64 0,.int .i64 0] [.int .i64 u.d,.int .i64 u.e,.int .i64 u.x,.int .i64 u.y,.int .i64 u.z]) (TmV q gb go hl gc WS J hd T u tb y) (fun vs => PutF.start 14 (by decide) (by decide) _ _ _ _ vs) ?_ ?_
  · intro i o hi bz vs az wa hold hpre hbi hF
    match i with
    | 0 =>
      cases hi
      exact Free.c_all rfl (Free.g_load _ _ rfl ((hold 3 (by decide)).trans rfl) ((fun wa hb => ld_graph (row_in HGB.out hb rfl)) wa hF.1) ⟨rfl,hF.keep (Below.refl _ _) (by decide) (by decide)⟩)
    | 1 =>
      cases hi
      exact Free.c_all rfl (Free.g_field (v:=.pointer (some ⟨WS,0,none⟩)) _ _ _ rfl ((hold 5 (by decide)).trans rfl) (by go_simp) ⟨rfl,hF.keep (Below.refl _ _) (by decide) (by decide)⟩)
    | 2 =>
      cases hi
      have h0 : az.eval (.tmp 24) = .pointer (some ⟨WS,0,none⟩):=(hpre 1 _ _ (by kernel_rfl) rfl rfl).2.2
      exact Free.c_all rfl (Free.g_load _ _ rfl h0 ((fun wa hb => ld_int (row_in HX.out hb rfl)) wa hF.1) ⟨rfl,hF.keep (Below.refl _ _) (by decide) (by decide)⟩)
    | 3 =>
      cases hi
      have h1 : az.eval (.tmp 23) = .slice (some ⟨gb,go,none⟩) hl gc:=(hpre 0 _ _ (by kernel_rfl) rfl rfl).2.2
      have h2 : az.eval (.tmp 25) = .int .i64 (J : Nat):=(hpre 2 _ _ (by kernel_rfl) rfl rfl).2.2
      exact Free.c_all rfl (Free.g_indexAddr (v:=.pointer (some ⟨gb,go + J * 5,none⟩)) _ _ _ rfl h1 h2 (by go_simp) ⟨rfl,hF.keep (Below.refl _ _) (by decide) (by decide)⟩)
    | 4 =>
      cases hi
      have h0 : az.eval (.tmp 26) = .pointer (some ⟨gb,go + J * 5,none⟩):=(hpre 3 _ _ (by kernel_rfl) rfl rfl).2.2
      exact Free.c_all rfl (Free.g_load _ _ rfl h0 (HLN.out wa hF.1) ⟨rfl,hF.keep (Below.refl _ _) (by decide) (by decide)⟩)
    | 5 =>
      cases hi
      exact Free.c_all rfl (Free.g_field (v:=.pointer (some ⟨WS,2,none⟩)) _ _ _ rfl ((hold 5 (by decide)).trans rfl) (by go_simp) ⟨rfl,hF.keep (Below.refl _ _) (by decide) (by decide)⟩)
    | 6 =>
      cases hi
      have h0 : az.eval (.tmp 28) = .pointer (some ⟨WS,2,none⟩):=(hpre 5 _ _ (by kernel_rfl) rfl rfl).2.2
      exact Free.c_all rfl (Free.g_load _ _ rfl h0 ((fun wa hb => ld_at ⟨(J : Nat),hd,T⟩ HX.out hb) wa hF.1) ⟨rfl,hF.keep (Below.refl _ _) (by decide) (by decide)⟩)
    | 7 =>
      cases hi
      have h0 : az.eval (.tmp 27) = .agg #[.int .u8 (y.nd.k : Nat),.int .u8 (y.nd.a : Nat),.int .i64 y.nd.b,.int .i64 y.nd.d,.slice y.A y.nd.ins.length y.c]:=(hpre 4 _ _ (by kernel_rfl) rfl rfl).2.2
      have h1 : az.eval (.tmp 29) = .agg #[.int .i64 T.d,.int .i64 T.e,.int .i64 T.x,.int .i64 T.y,.int .i64 T.z]:=(hpre 6 _ _ (by kernel_rfl) rfl rfl).2.2
      refine Free.c_all rfl (Free.g_call _ _ rfl Tryz.func26 (by kernel_rfl) rfl [.agg #[.int .u8 (y.nd.k : Nat),.int .u8 (y.nd.a : Nat),.int .i64 y.nd.b,.int .i64 y.nd.d,.slice y.A y.nd.ins.length y.c],.agg #[.int .i64 T.d,.int .i64 T.e,.int .i64 T.x,.int .i64 T.y,.int .i64 T.z]] (by show [az.eval (.tmp 27),az.eval (.tmp 29)] = _;rw [h0,h1]) ?_)
      exact ((fun wa _ => HTM.out wa) wa hF.1).mono fun e w2 ⟨he,hb2⟩ => ⟨_,he,rfl,hF.keep hb2 (by decide) (by decide)⟩
    | 8 =>
      cases hi
      have h0 : az.eval (.tmp 30) = .tuple #[.agg #[.int .i64 u.d,.int .i64 u.e,.int .i64 u.x,.int .i64 u.y,.int .i64 u.z],.bool tb]:=(hpre 7 _ _ (by kernel_rfl) rfl rfl).2.2
      exact Free.c_all rfl (Free.g_move _ rfl ⟨h0,hF.keep (Below.refl _ _) (by decide) (by decide)⟩)
    | 9 =>
      cases hi
      have h0 : az.eval (.tmp 22) = .tuple #[.agg #[.int .i64 u.d,.int .i64 u.e,.int .i64 u.x,.int .i64 u.y,.int .i64 u.z],.bool tb]:=(hpre 8 _ _ (by kernel_rfl) rfl rfl).2.2
      refine Free.c_all rfl ?_
      unfold execOp
      simp only [h0]
      go_simp
      exact ⟨rfl,hF.keep (Below.refl _ _) (by decide) (by decide)⟩
    | 10 =>
      cases hi
      have h0 : az.eval (.tmp 22) = .tuple #[.agg #[.int .i64 u.d,.int .i64 u.e,.int .i64 u.x,.int .i64 u.y,.int .i64 u.z],.bool tb]:=(hpre 8 _ _ (by kernel_rfl) rfl rfl).2.2
      refine Free.c_all rfl ?_
      unfold execOp
      simp only [h0]
      go_simp
      exact ⟨rfl,hF.keep (Below.refl _ _) (by decide) (by decide)⟩
    | 11 =>
      cases hi
      refine Free.c_all rfl ?_
      unfold execOp
      go_simp
      exact ⟨trivial,hF.alloc (by decide) hbi⟩
    | 12 =>
      cases hi
      have hq:=id (hpre (11) _ _ (by kernel_rfl) rfl rfl)
      have hx : az.eval (.tmp 31) = .agg #[.int .i64 u.d,.int .i64 u.e,.int .i64 u.x,.int .i64 u.y,.int .i64 u.z]:=(hpre 9 _ _ (by kernel_rfl) rfl rfl).2.2
      obtain ⟨blk,hblk,hle,hrow⟩:=hF.row hq.1 hbi
      have hp : az.eval (.tmp 6) = .pointer (some ⟨blk,0,none⟩):=hq.2.1.trans hblk
      have hc0:=hrow.cell 0;have hf0:=hrow.free 0
      have hc1:=hrow.cell 1;have hf1:=hrow.free 1
      have hc2:=hrow.cell 2;have hf2:=hrow.free 2
      have hc3:=hrow.cell 3;have hf3:=hrow.free 3
      have hc4:=hrow.cell 4;have hf4:=hrow.free 4
      simp only [List.getElem?_cons_succ,List.getElem?_cons_zero] at hc0 hc1 hc2 hc3 hc4
      refine Free.c_all rfl ?_
      unfold execOp
      simp only [hp,hx]
      go_simp
      exact ⟨rfl,hF.store (by decide) hq.1 hblk hle (row_set5' hrow) ((((((hF.1.setCell hle _).setCell hle _).setCell hle _).setCell hle _).setCell hle _))⟩
    | 13 =>
      cases hi
      have h0 : az.eval (.tmp 32) = .bool tb:=(hpre 10 _ _ (by kernel_rfl) rfl rfl).2.2
      exact Free.c_all rfl (Free.g_assign _ rfl ⟨h0,hF.keep (Below.refl _ _) (by decide) (by decide)⟩)
    | _ + 14 => cases hi
  · intro vs we hv hF
    obtain ⟨hbE,blk,hblk,hle,hrowE⟩:=hF.done
    clear hF
    have e13 : vs 13 = .bool tb:=hv 13 (by simp) (by rintro o ⟨⟩;rfl)
    clear hv
    simp only [Free.puts,Nat.reduceAdd,hblk,e13]
    clear e13
    clear hblk
    generalize vs 0 = y0
    generalize vs 1 = y1
    generalize vs 2 = y2
    generalize vs 3 = y3
    generalize vs 4 = y4
    generalize vs 5 = y5
    generalize vs 6 = y6
    generalize vs 7 = y7
    generalize vs 8 = y8
    generalize vs 9 = y9
    generalize vs 10 = y10
    generalize vs 12 = y12
    clear vs
    go_simp
    have hkont:=HKONT.out;clear HKONT
    have HB3:=Hd hbE;have HUX : Hid (Row we blk 27 u.cells):=Hd hrowE;clear hbE hle hrowE
    have hg3:=HG1.out.below HB3.out
    have ho3 : OwnT q we v1 (M ++ O):=Rw.own_kept HO1.out HB3.out
    have hx3:=HX.out.below HB3.out HX.out.lt
    have hk3:=HT1.out.trans (Kept.below HB3.out)
    have hs3:=Nat.le_trans HS1.out HB3.out.size
    have HG3:=Hd hg3;have HO3:=Hd ho3;have HX3:=Hd hx3;have HK3:=Hd hk3;have HS3:=Hd hs3;clear hg3 ho3 hx3 hk3 hs3 HG1 HO1 HX HT1 HS1
    cases tb with
    | false =>
      have hrn : r = none:=by
       have h1:=HTB.out
       cases r with
       | none => rfl
       | some z => cases h1
      have hson:=HONE.out [] (fun z e => by rw [hrn] at e;cases e) (fun _ => rfl)
      rw [List.append_nil] at hson
      have HSON:=Hd hson;clear hson hrn
      go_wp2_with fail
      go_end0
      exact ⟨rfl,⟨v1,O,HG3.out,HO3.out,HSON.out,by have:=HM1.out;omega⟩,HK3.out,by have:=HB3.out.size;have:=HW1.out;have:=HWS.out;omega⟩
    | true =>
      have hrs : r = some u:=by
       have h1:=HTB.out
       have h2:=HU.out
       cases r with
       | none => cases h1
       | some z => unfold ov at h2;simp only [Option.getD_some] at h2;rw [h2]
      have hsz : (M ++ O).length ≤ 600000000:=by rw [List.length_append];have:=HM.out;have:=HM1.out;omega
      obtain ⟨VA1,vc1,rfl,_⟩:=Rw.Ts.of_own HO3.out
      have hp0:=HG3.out.pb
      have HRS:=Hd hrs;have HSZ:=Hd hsz;clear hrs hsz hp0
      go_upto_region 5 with fail
      refine Free.wp_key (by kernel_rfl) (by kernel_rfl) (CoK q we (.slice VA1 (M ++ O).length vc1) (M ++ O) WS blk (J : Nat) ⟨(J : Nat),hd,T⟩ u) (CoV q (.slice VA1 (M ++ O).length vc1) WS J u) (CoK.start HG3.out HO3.out HX3.out HUX.out HS3.out) ?_ ?_
      · intro i0 o hi bz vz az wa hold hpre hbi hF
        match i0 with
        | 0 => cases hi;exact Free.c_all rfl (Free.g_load _ _ rfl ((hold 2 (by decide)).trans rfl) (ld_times (row_in (hF.a (hF.no0 hbi)).1.tb (Below.refl _ _) rfl)) ⟨rfl,hF.keep (by decide)⟩)
        | 1 => cases hi;exact Free.c_all rfl (Free.g_load _ _ rfl ((hold 4 (by decide)).trans rfl) (ld_paths (row_in (hF.a (hF.no6 (.inl hbi))).1.pb (Below.refl _ _) rfl)) ⟨rfl,hF.keep (by decide)⟩)
        | 2 => cases hi;exact Free.c_all rfl (Free.g_field (v:=.pointer (some ⟨WS,0,none⟩)) _ _ _ rfl ((hold 5 (by decide)).trans rfl) (by go_simp) ⟨rfl,hF.keep (by decide)⟩)
        | 3 => cases hi;exact Free.c_all rfl (Free.g_load _ _ rfl (hpre 2 _ _ (by kernel_rfl) rfl rfl).2.2 (ld_int (row_in (hF.a (hF.no6 (.inr (.inl hbi)))).2.2.1 (Below.refl _ _) rfl)) ⟨rfl,hF.keep (by decide)⟩)
        | 4 => cases hi;exact Free.c_all rfl (Free.g_load _ _ rfl ((hold 6 (by decide)).trans rfl) (load_t (hF.a (hF.no6 (.inr (.inr (.inl hbi))))).2.2.2 wa (Below.refl _ _)) ⟨rfl,hF.keep (by decide)⟩)
        | 5 => cases hi;exact Free.c_all rfl (Free.g_load _ _ rfl ((hold 1 (by decide)).trans rfl) (ld_int (row_in (hF.a (hF.no6 (.inr (.inr (.inr hbi))))).1.nb (Below.refl _ _) rfl)) ⟨rfl,hF.keep (by decide)⟩)
        | 6 =>
          cases hi
          have h1:=hpre 1 _ _ (by kernel_rfl) rfl rfl
          have h3:=hpre 3 _ _ (by kernel_rfl) rfl rfl
          have h4:=hpre 4 _ _ (by kernel_rfl) rfl rfl
          have h5:=hpre 5 _ _ (by kernel_rfl) rfl rfl
          refine Free.c_all rfl (Free.g_call _ _ rfl Tryz.func50 (by kernel_rfl) rfl [.pointer (some ⟨q.p,0,none⟩),.int .i64 (J : Nat),.agg #[.int .i64 u.d,.int .i64 u.e,.int .i64 u.x,.int .i64 u.y,.int .i64 u.z],.int .i64 (q.n : Nat)] (cons_eq h1.2.2 (cons_eq h3.2.2 (cons_eq h4.2.2 (cons_eq h5.2.2 rfl)))) ?_)
          obtain ⟨fs,hP⟩:=(hF.a (hF.no7 hbi)).1.pth
          exact (comes_any q.p q.F q.c q.base q.A q.lg fs (J : Nat) (q.n : Nat) u wa hP HK.out.len HK.out.ins HK.out.fine).mono fun e w2 ⟨⟨vv,l,he,hw,ho⟩,hp,ht⟩ => ⟨vv,he,trivial,hF.ask hbi ⟨h1.1,h3.1,h4.1,h5.1⟩ hw ho hp ht⟩
        | 7 =>
          cases hi
          have h0:=hpre 0 _ _ (by kernel_rfl) rfl rfl
          have h6:=hpre 6 _ _ (by kernel_rfl) rfl rfl
          obtain ⟨v',w',hrun,hF'⟩:=hF.add HK.out hbi h0.1 h6.1 HSZ.out _
          exact Free.c_all rfl (m_appendS _ _ _ rfl _ _ h0.2.2 h6.2.1 hrun ⟨trivial,hF'⟩)
        | 8 =>
          cases hi
          have h7:=hpre 7 _ _ (by kernel_rfl) rfl rfl
          have hp:=(hold 2 (by decide)).trans (rfl : _ = Value.pointer (some ⟨q.Bt,0,none⟩))
          obtain ⟨hr0,hF'⟩:=hF.put HK.out hbi h7.1
          obtain ⟨_,_,_,ho7⟩:=hF.s7 h7.1 hbi
          obtain ⟨A7,c7,e7,_⟩:=Rw.Ts.of_own ho7
          rw [e7] at hF'
          exact Free.c_all rfl (g_store1 rfl hp (h7.2.1.trans e7) (hr0.cell 0) (hr0.free 0) ⟨rfl,hF'⟩)
        | _ + 9 => cases hi
      · intro vz wf hv hF
        obtain ⟨l,v',hw,hg5,ho5⟩:=hF.s8 rfl
        have hk5:=hF.kp
        have hlen : (ofS (appS u l)).length ≤ 4194304:=by have:=ofS_len (appS u l);have:=appS_len u l;have:=hw.len;omega
        have hson:=HONE.out (ofS (appS u l)) (fun z e => by rw [HRS.out] at e;cases e;exact ⟨HUR.out HRS.out,l,hw,rfl⟩) (fun e => by rw [HRS.out] at e;cases e)
        have HE:=Hd (And.intro hg5 (And.intro ho5 (And.intro hson (And.intro hlen (And.intro hk5 hF.sz.2)))));clear hg5 ho5 hson hlen hk5 hF hv hw
        simp only [Free.puts,Nat.reduceAdd]
        generalize vz 0 = y0,vz 1 = y1,vz 2 = y2,vz 3 = y3,vz 4 = y4,vz 5 = y5,vz 6 = y6,vz 7 = y7
        go_simp
        go_wp2_with fail
        go_end0
        obtain ⟨hg5,ho5,hson,hlen,hk5,hsz5⟩:=HE.out
        refine ⟨rfl,⟨v',O ++ ofS (appS u l),hg5,by rw [← List.append_assoc];exact ho5,hson,by rw [List.length_append];have:=HM1.out;omega⟩,HK3.out.trans hk5,by have:=HB3.out.size;have:=HW1.out;have:=HWS.out;omega⟩
end

section
namespace Ip
open Go.Maps (Keyed)
open Go.ChangeMaps (notKey putKey)
theorem pv_inj {s t : Pl} (h : s.v = t.v) : s = t:=by
 obtain ⟨a,b,c,d,e,f,g⟩:=s
 obtain ⟨a',b',c',d',e',f',g'⟩:=t
 simp only [Pl.v,Value.agg.injEq,Array.mk.injEq,List.cons.injEq,Value.int.injEq,Value.bool.injEq,true_and,and_true] at h
 obtain ⟨rfl,rfl,rfl,rfl,rfl,rfl,rfl⟩:=h
 rfl
def Fi (n : Int) : Prop:=(Lit.int .i64 n).wf = true
theorem fi_of {n : Int} (h1 : -9223372036854775808 ≤ n) (h2 : n ≤ 9223372036854775807) : Fi n:=by
 simp [Fi,Lit.wf,IntKind.min,IntKind.max,IntKind.signed,IntKind.bits];omega
def WP (t : Pl) : Prop:=Fi t.nd ∧ Fi t.at_.d ∧ Fi t.at_.e ∧ Fi t.at_.x ∧ Fi t.at_.y ∧ Fi t.at_.z
theorem keyedP : Keyed Tryz.prog 50:=Keyed.of_law (deep_law_laid progLaid (m:=8) (by decide) (of_decide_eq_true (by kernel_rfl)) (by kernel_rfl) (by kernel_rfl))
theorem cells_bool : Tryz.prog.cellsOf 4 = 1:=by kernel_rfl
theorem keyLitsS (d : Nat) {t : St} (h0 : Fi t.d) (h1 : Fi t.e) (h2 : Fi t.x) (h3 : Fi t.y) (h4 : Fi t.z) :
 Tryz.prog.keyLits (d + 3) 27 [.int .i64 t.d,.int .i64 t.e,.int .i64 t.x,.int .i64 t.y,.int .i64 t.z] = some [.int .i64 t.d,.int .i64 t.e,.int .i64 t.x,.int .i64 t.y,.int .i64 t.z]:=by
 unfold Fi at *
 simp [Program.keyLits,Tryz.underlying27,Tryz.underlying25,Tryz.underlying3,cells_stamp,cells_arr,cells_int,List.range_succ,h0,h1,h2,h3,h4]
theorem keyLitsI (d : Nat) {n : Int} (h : Fi n) : Tryz.prog.keyLits (d + 1) 3 [.int .i64 n] = some [.int .i64 n]:=by
 unfold Fi at h
 simp [Program.keyLits,Tryz.underlying3,h]
theorem keyLitsB (d : Nat) (b : Bool) : Tryz.prog.keyLits (d + 1) 4 [.bool b] = some [.bool b]:=by
 simp [Program.keyLits,Tryz.underlying4]
theorem keyLitsP (d : Nat) {t : Pl} (h : WP t) :
 Tryz.prog.keyLits (d + 4) 50 t.cells = some [.int .i64 t.nd,.bool t.held,.int .i64 t.at_.d,.int .i64 t.at_.e,.int .i64 t.at_.x,.int .i64 t.at_.y,.int .i64 t.at_.z]:=by
 obtain ⟨h0,h1,h2,h3,h4,h5⟩:=h
 unfold Program.keyLits
 rw [Tryz.underlying50]
 simp [cells_place,cells_stamp,cells_int,cells_bool,keyLitsS d h1 h2 h3 h4 h5,keyLitsI (d + 2) h0,keyLitsB (d + 2)]
theorem keyOfP_some {t : Pl} (h : WP t) : ∃ l,keyOf Tryz.prog 50 t.v = some l:=by
 have h0 : decide (2 < Tryz.prog.types.size) = true:=by kernel_rfl
 have h0:=of_decide_eq_true h0
 obtain ⟨m,hm⟩ : ∃ m,Tryz.prog.types.size = m + 3:=⟨Tryz.prog.types.size - 3,by omega⟩
 have hk : Tryz.prog.keyType 50 = true:=by kernel_rfl
 have hl:=keyLitsP m h
 unfold keyOf
 rw [Tryz.underlying50,hm]
 simp [hk,Value.formed,Tryz.underlying50,cells_place,Value.cells,hl]
noncomputable def kt (t : Pl) : Lit:=(keyOf Tryz.prog 50 t.v).getD (.bool false)
theorem keyOf_kt {t : Pl} (h : WP t) : keyOf Tryz.prog 50 t.v = some (kt t):=by
 obtain ⟨l,hl⟩:=keyOfP_some h
 unfold kt;rw [hl];rfl
theorem kt_inj {s t : Pl} (hs : WP s) (ht : WP t) (h : kt s = kt t) : s = t:=pv_inj (keyedP.inj (keyOf_kt hs) (by rw [h];exact keyOf_kt ht))
theorem kt_lit {t : Pl} (h : WP t) : WideAt.IsKeyLit (kt t):=keyedP.key (keyOf_kt h)
def RU : Value → Option (DataW Unit × List MemPlace)
 | .agg ⟨[]⟩ => some (.agg [],[])
 | _ => none
theorem RU_inv {v : Value} {y : DataW Unit × List MemPlace} (h : RU v = some y) : v = .agg #[]:=by
 unfold RU at h
 split at h
 · rfl
 · cases h
noncomputable def entP (t : Pl) : Lit × DataW Unit:=(kt t,.agg [])
def MapP (w : World) (b N : Nat) (E : List Pl) : Prop :=
 (∃ D,w.ownsMap Tryz.prog 50 RU b N (.map D) ∧ D.Perm (E.map entP)) ∧ ∀ t ∈ E,WP t
noncomputable def putP (t : Pl) (E : List Pl) : List Pl:=t :: E.filter fun u => @decide (u ≠ t) (Classical.propDecidable _)
theorem mem_putP {t u : Pl} {E : List Pl} : u ∈ putP t E ↔ u = t ∨ u ∈ E:=by
 unfold putP
 rw [List.mem_cons,List.mem_filter]
 constructor
 · rintro (h | h)
   · exact .inl h
   · exact .inr h.1
 · rintro (h | h)
   · exact .inl h
   · by_cases e : u = t
     · exact .inl e
     · exact .inr ⟨h,by simpa using e⟩
theorem putP_len (t : Pl) (E : List Pl) : (putP t E).length ≤ E.length + 1:=by
 unfold putP
 rw [List.length_cons]
 have:=List.length_filter_le (fun u => @decide (u ≠ t) (Classical.propDecidable _)) E
 omega
section
variable {w w' : World} {b n N : Nat} {E : List Pl} {row : Option Nat}
theorem MapP.made (w : World) : MapP (w.alloc (.map #[] 0)) w.heap.size 0 []:=⟨⟨[],World.ownsMap_made _ _ _ _,.refl _⟩,by simp⟩
theorem MapP.kept (h : MapP w b n E) (hg : w.grownBy w' row) (hne : some b ≠ row) : MapP w' b n E:=by
 obtain ⟨⟨L,h1,h2⟩,h3⟩:=h
 exact ⟨⟨L,h1.kept hg hne,h2⟩,h3⟩
theorem MapP.lt (h : MapP w b n E) : b < w.heap.size:=by
 obtain ⟨⟨L,h1,h2⟩,h3⟩:=h
 exact h1.lt
theorem MapP.alloc (h : MapP w b n E) (o : Obj) : MapP (w.alloc o) b n E:=h.kept (World.grownBy_alloc w o none) (by simp)
theorem MapP.store (h : MapP w b n E) (hn : n < maxLen) {t : Pl} (ht : WP t) :
 ∃ w',(Instr.mapUpdate 153 (.map (some b)) t.v (.agg #[])).run Tryz.prog w = .ok () w' ∧ MapP w' b (n + 1) (putP t E) ∧ w.grownBy w' (some b):=by
 obtain ⟨⟨L,h1,hp⟩,hR⟩:=h
 obtain ⟨w',hrun,h2,hg⟩:=h1.update keyedP Tryz.underlying153 hn (keyOf_kt ht) (show RU (.agg #[]) = some (.agg [],[]) from rfl)
 rw [DataW.put_eq] at h2
 refine ⟨w',hrun,⟨⟨_,h2,?_⟩,?_⟩,hg⟩
 · unfold putKey putP
   refine (insert_perm _ _).trans ?_
   rw [List.map_cons]
   refine List.Perm.cons _ ?_
   refine (hp.filter _).trans ?_
   rw [List.filter_map]
   refine List.Perm.of_eq ?_
   congr 1
   refine List.filter_congr fun u hu => ?_
   show notKey (kt t) (entP u) = _
   rw [Bool.eq_iff_iff,Go.Maps.notKey_iff (kt_lit ht)]
   simp only [decide_eq_true_eq]
   constructor
   · intro h e;exact h (by rw [← e];rfl)
   · intro h e;exact h (kt_inj (hR u hu) ht e)
 · intro u hu
   rcases mem_putP.1 hu with rfl | hu
   · exact ht
   · exact hR u hu
end
structure ColP (E : List Pl) (left : Lit → Bool) (xs : List Pl) : Prop where
 sub : ∀ t ∈ xs,t ∈ E
 all : ∀ e ∈ E,left (kt e) = true ∨ e ∈ xs
section
variable {E : List Pl} {D : List (Lit × DataW Unit)} {left : Lit → Bool} {xs : List Pl} {c : Pl}
theorem ColP.start (hp : D.Perm (E.map entP)) (hR : ∀ t ∈ E,WP t) : ColP E (Go.Maps.has (.map D)) []:=by
 refine ⟨by simp,fun e he => .inl ?_⟩
 rw [Go.Maps.has_eq,List.any_eq_true]
 exact ⟨entP e,hp.mem_iff.2 (List.mem_map_of_mem he),WideAt.sameKey_self (kt_lit (hR e he))⟩
theorem map_atP {k : Lit} {y : DataW Unit} (hp : D.Perm (E.map entP)) (hat : ∀ zd,(DataW.map D).atKey k zd = y) : ∃ p ∈ E,kt p = k:=by
 have h1 : Go.Maps.has (.map D) k = true:=Go.Maps.has_true_of_atKey hat
 rw [Go.Maps.has_eq,List.any_eq_true] at h1
 obtain ⟨p,hp1,hp2⟩:=h1
 obtain ⟨u,hu,e⟩:=List.mem_map.1 (hp.mem_iff.1 hp1)
 refine ⟨u,hu,?_⟩
 have h5:=WideAt.sameKey_eq hp2
 rw [← e] at h5
 exact h5
theorem ColP.step (h : ColP E left xs) (hR : ∀ t ∈ E,WP t) (hc : c ∈ E) {k : Lit} (hk : kt c = k) : ColP E (fun z => left z && !z.sameKey k) (xs ++ [c]):=by
 refine ⟨fun t ht => ?_,fun e he => ?_⟩
 · rcases List.mem_append.1 ht with ht | ht
   · exact h.sub t ht
   · rw [List.mem_singleton] at ht;subst ht;exact hc
 · by_cases hs : (kt e).sameKey k = true
   · refine .inr (List.mem_append_right _ ?_)
     rw [kt_inj (hR e he) (hR c hc) ((WideAt.sameKey_eq hs).trans hk.symm)]
     simp
   · rcases h.all e he with h1 | h1
     · refine .inl ?_
       simp [h1,hs]
     · exact .inr (List.mem_append_left _ h1)
theorem ColP.done (h : ColP E left xs) (hl : ∀ k,left k = false) (t : Pl) : t ∈ xs ↔ t ∈ E :=
 ⟨h.sub t,fun ht => by
  rcases h.all t ht with h1 | h1
  · rw [hl] at h1;cases h1
  · exact h1⟩
end
end Ip
end

section
theorem fitB_eq {l : List Gn} {nd : Int} {hd : Bool} {T : St} {y : Gn} (h : 0 ≤ nd ∧ nd < (l.length : Int) → l[nd.toNat]? = some y) :
 fitB (nds l) ⟨nd,hd,T⟩ = (decide (0 ≤ nd ∧ nd < (l.length : Int)) && decide T.R && decide (T.d = y.nd.inD) && mayK y.nd.k hd):=by
 unfold fitB
 by_cases k : 0 ≤ nd ∧ nd < (l.length : Int)
 · have hyn : (nds l)[nd.toNat]? = some y.nd:=by unfold nds;rw [List.getElem?_map,h k];rfl
   simp only [hyn,fitN,decide_eq_true k,decide_eq_true k.1,Bool.true_and]
 · rw [decide_eq_false k]
   by_cases h0 : 0 ≤ nd
   · have : (nds l)[nd.toNat]? = none:=List.getElem?_eq_none (by rw [nds_len];omega)
     simp [this]
   · simp [h0]
def Rin (A : Option Addr) (n c B : Nat) (nd : Int) (hd : Bool) (T : St) (y : Gn) (pt : Value) (D : Int) (N R DD K : Bool) : Nat → Value → Prop
 | 0,v => v = .slice A n c
 | 1,v => v = .pointer (some ⟨B,0,none⟩)
 | 2,v => v = .int .i64 nd
 | 3,v => v = .bool N
 | 4,v => v = .bool N
 | 5,v => v = if N = true then .pointer (some ⟨B,2,none⟩) else undef
 | 6,v => v = if N = true then .agg #[.int .i64 T.d,.int .i64 T.e,.int .i64 T.x,.int .i64 T.y,.int .i64 T.z] else undef
 | 7,v => v = if N = true then .bool R else undef
 | 8,v => v = .bool (N && R)
 | 9,v => v = .bool (N && R)
 | 10,v => v = if (N && R) = true then .pointer (some ⟨B,2,none⟩) else undef
 | 11,v => v = if (N && R) = true then .pointer (some ⟨B,2,none⟩) else undef
 | 12,v => v = if (N && R) = true then .int .i64 T.d else undef
 | 13,v => v = if (N && R) = true then .slice A n c else undef
 | 14,v => v = if (N && R) = true then .pointer (some ⟨B,0,none⟩) else undef
 | 15,v => v = if (N && R) = true then .int .i64 nd else undef
 | 16,v => v = if (N && R) = true then pt else undef
 | 17,v => v = if (N && R) = true then .agg #[.int .u8 (y.nd.k : Nat),.int .u8 (y.nd.a : Nat),.int .i64 y.nd.b,.int .i64 y.nd.d,.slice y.A y.nd.ins.length y.c] else undef
 | 18,v => v = if (N && R) = true then .int .i64 D else undef
 | 19,v => v = if (N && R) = true then .bool DD else undef
 | 20,v => v = .bool ((N && R) && DD)
 | 21,v => v = .bool ((N && R) && DD)
 | 22,v => v = if ((N && R) && DD) = true then .slice A n c else undef
 | 23,v => v = if ((N && R) && DD) = true then .pointer (some ⟨B,0,none⟩) else undef
 | 24,v => v = if ((N && R) && DD) = true then .int .i64 nd else undef
 | 25,v => v = if ((N && R) && DD) = true then pt else undef
 | 26,v => v = if ((N && R) && DD) = true then pt else undef
 | 27,v => v = if ((N && R) && DD) = true then .int .u8 (y.nd.k : Nat) else undef
 | 28,v => v = if ((N && R) && DD) = true then .pointer (some ⟨B,1,none⟩) else undef
 | 29,v => v = if ((N && R) && DD) = true then .bool hd else undef
 | 30,v => v = if ((N && R) && DD) = true then .bool K else undef
 | 31,v => v = .bool (((N && R) && DD) && K)
 | _,v => v = .bool (((N && R) && DD) && K)
def Fit_ (A : Option Addr) (n c B : Nat) (nd : Int) (hd : Bool) (T : St) (y : Gn) (pt : Value) (D : Int) (NEG BIG R DD : Bool) : Nat → Value → Prop
 | 0,v => v = .pointer (some ⟨B,0,none⟩)
 | 1,v => v = .int .i64 nd
 | 2,v => v = .bool NEG
 | 3,v => v = .bool NEG
 | 4,v => v = if NEG = false then .pointer (some ⟨B,0,none⟩) else undef
 | 5,v => v = if NEG = false then .int .i64 nd else undef
 | 6,v => v = if NEG = false then .slice A n c else undef
 | 7,v => v = if NEG = false then .int .i64 n else undef
 | 8,v => v = if NEG = false then .bool BIG else undef
 | 9,v => v = .bool (NEG || BIG)
 | 10,v => v = .bool (NEG || BIG)
 | 11,v => v = if (NEG || BIG) = false then .pointer (some ⟨B,2,none⟩) else undef
 | 12,v => v = if (NEG || BIG) = false then .agg #[.int .i64 T.d,.int .i64 T.e,.int .i64 T.x,.int .i64 T.y,.int .i64 T.z] else undef
 | 13,v => v = if (NEG || BIG) = false then .bool R else undef
 | 14,v => v = if (NEG || BIG) = false then .bool (!R) else undef
 | 15,v => v = .bool ((NEG || BIG) || (!R))
 | 16,v => v = .bool ((NEG || BIG) || (!R))
 | 17,v => v = if ((NEG || BIG) || (!R)) = false then .pointer (some ⟨B,2,none⟩) else undef
 | 18,v => v = if ((NEG || BIG) || (!R)) = false then .pointer (some ⟨B,2,none⟩) else undef
 | 19,v => v = if ((NEG || BIG) || (!R)) = false then .int .i64 T.d else undef
 | 20,v => v = if ((NEG || BIG) || (!R)) = false then .slice A n c else undef
 | 21,v => v = if ((NEG || BIG) || (!R)) = false then .pointer (some ⟨B,0,none⟩) else undef
 | 22,v => v = if ((NEG || BIG) || (!R)) = false then .int .i64 nd else undef
 | 23,v => v = if ((NEG || BIG) || (!R)) = false then pt else undef
 | 24,v => v = if ((NEG || BIG) || (!R)) = false then .agg #[.int .u8 (y.nd.k : Nat),.int .u8 (y.nd.a : Nat),.int .i64 y.nd.b,.int .i64 y.nd.d,.slice y.A y.nd.ins.length y.c] else undef
 | 25,v => v = if ((NEG || BIG) || (!R)) = false then .int .i64 D else undef
 | 26,v => v = if ((NEG || BIG) || (!R)) = false then .bool DD else undef
 | _,v => v = .bool (((NEG || BIG) || (!R)) || DD)
set_option maxHeartbeats 16000000 in
theorem rightIn_any (A : Option Addr) (l : List Gn) (c : Nat) (nd : Int) (hd : Bool) (T : St) (w : World) (hG : Gr w A l) (hD : ∀ x ∈ nds l,-1000 ≤ x.d ∧ x.d ≤ 1000) :
 Calls Tryz.prog 54 #[.slice A l.length c,.agg #[.int .i64 nd,.bool hd,.int .i64 T.d,.int .i64 T.e,.int .i64 T.x,.int .i64 T.y,.int .i64 T.z]] w fun e w' => e = .returned (.bool (fitB (nds l) ⟨nd,hd,T⟩)) ∧ Below w.heap.size w w':=by
 obtain ⟨y,pt,hna,hyl,hdy⟩:=nodeAt (hG.below ((Below.refl _ _).alloc (Nat.le_refl _) (.cells #[.int .i64 nd,.bool hd,.int .i64 T.d,.int .i64 T.e,.int .i64 T.x,.int .i64 T.y,.int .i64 T.z] 50))) hD c nd
 have hb0 : Below w.heap.size w (w.alloc (.cells #[.int .i64 nd,.bool hd,.int .i64 T.d,.int .i64 T.e,.int .i64 T.x,.int .i64 T.y,.int .i64 T.z] 50)):=(Below.refl _ _).alloc (Nat.le_refl _) _
 have hg1:=hG.below hb0
 have hx0 : Row (w.alloc (.cells #[.int .i64 nd,.bool hd,.int .i64 T.d,.int .i64 T.e,.int .i64 T.x,.int .i64 T.y,.int .i64 T.z] 50)) w.heap.size 50 (Pl.cells ⟨nd,hd,T⟩):=Row.made w _ _
 rw [fitB_eq hyl]
 have hn:=fun wa => (impIsNode_any A l.length c nd wa).mono fun e w' (h : _ ∧ wa = w') => And.intro h.1 (show Below wa.heap.size wa w' by rw [← h.2];exact Below.refl _ _)
 have hr:=fun wa => right_any T wa
 have hdp:=fun wa => depthIn_any y.nd y.A y.nd.ins.length y.c wa hdy
 have hm:=fun wa => (mayBe_any y.nd.k hd wa).mono fun e w' (h : _ ∧ wa = w') => And.intro h.1 (show Below wa.heap.size wa w' by rw [← h.2];exact Below.refl _ _)
 generalize decide (0 ≤ nd ∧ nd < (l.length : Int)) = N at *
 generalize l.length = n at *
 generalize decide T.R = R at *
 generalize y.nd.inD = D at *
 obtain ⟨DD,hq⟩ : ∃ DD,decide (T.d = D) = DD:=⟨_,rfl⟩
 rw [hq]
 have HD:=Hd hq;clear hq
 generalize mayK y.nd.k hd = K at *
 have HI:=Hd (show (N && R) = true → N = true by cases N <;> simp)
 have HI2:=Hd (show (N && R && DD) = true → N = true by cases N <;> simp)
 have HX:=Hd hx0;have HB:=Hd hb0;have HN:=Hd hn;have HR:=Hd hr;have HDP:=Hd hdp;have HM:=Hd hm;have HNA:=Hd hna
 clear hx0 hb0 hn hr hdp hm hna hG hD hdy hyl hg1
 unfold St.val at *
 go_enter Tryz.func54,Tryz.ntmps54
 go_upto_region 1 with fail
 generalize w.alloc (.cells #[.int .i64 nd,.bool hd,.int .i64 T.d,.int .i64 T.e,.int .i64 T.x,.int .i64 T.y,.int .i64 T.z] 50) = w1 at *
 generalize w.heap.size = B at HX ⊢
 refine Free.wp_guarded (by kernel_rfl) (by kernel_rfl) (fun w' => Below w1.heap.size w1 w') (Rin A n c B nd hd T y pt D N R DD K) ((Below.refl _ _).drew) ?_ ?_
 · intro i o hi a wa hold hpre hF
   match i with
   | 0 => cases hi;exact Free.c_all rfl (Free.g_move _ rfl ⟨((hold 0 (by decide)).trans rfl),hF⟩)
   | 1 => cases hi;exact Free.c_all rfl (Free.g_field (v:=.pointer (some ⟨B,0,none⟩)) _ _ _ rfl ((hold 3 (by decide)).trans rfl) (by go_simp) ⟨rfl,hF⟩)
   | 2 => cases hi;exact Free.c_all rfl (Free.g_load _ _ rfl (hpre 1 _ _ (by kernel_rfl) rfl rfl) (ld_int (row_in HX.out hF rfl)) ⟨rfl,hF⟩)
   | 3 => cases hi;exact Free.c_all rfl (Free.g_call _ _ rfl Tryz.func55 (by kernel_rfl) rfl [.slice A n c,.int .i64 nd] (cons_eq (hpre 0 _ _ (by kernel_rfl) rfl rfl) (cons_eq (hpre 2 _ _ (by kernel_rfl) rfl rfl) (rfl))) ((HN.out wa).mono fun e w2 ⟨he,hb2⟩ => ⟨_,he,rfl,hF.trans (hb2.mono hF.size)⟩))
   | 4 => cases hi;exact Free.c_all rfl (Free.g_move _ rfl ⟨(hpre 3 _ _ (by kernel_rfl) rfl rfl),hF⟩)
   | 5 => cases hi;exact c_if rfl rfl rfl (hpre 4 _ _ (by kernel_rfl) rfl rfl) (fun e => Free.g_field (v:=.pointer (some ⟨B,2,none⟩)) _ _ _ rfl ((hold 3 (by decide)).trans rfl) (by go_simp) ⟨rfl,hF⟩) hF
   | 6 => cases hi;exact c_if rfl rfl rfl (hpre 4 _ _ (by kernel_rfl) rfl rfl) (fun e => Free.g_load _ _ rfl ((hpre 5 _ _ (by kernel_rfl) rfl rfl).trans (if_pos e)) (ld_at ⟨nd,hd,T⟩ HX.out hF) ⟨rfl,hF⟩) hF
   | 7 => cases hi;exact c_if rfl rfl rfl (hpre 4 _ _ (by kernel_rfl) rfl rfl) (fun e => Free.g_call _ _ rfl Tryz.func75 (by kernel_rfl) rfl [.agg #[.int .i64 T.d,.int .i64 T.e,.int .i64 T.x,.int .i64 T.y,.int .i64 T.z]] (cons_eq ((hpre 6 _ _ (by kernel_rfl) rfl rfl).trans (if_pos e)) (rfl)) ((HR.out wa).mono fun e w2 ⟨he,hb2⟩ => ⟨_,he,rfl,hF.trans (hb2.mono hF.size)⟩)) hF
   | 8 => cases hi;exact Free.c_all rfl (pick_and rfl (hpre 4 _ _ (by kernel_rfl) rfl rfl) (hpre 7 _ _ (by kernel_rfl) rfl rfl) hF)
   | 9 => cases hi;exact Free.c_all rfl (Free.g_move _ rfl ⟨(hpre 8 _ _ (by kernel_rfl) rfl rfl),hF⟩)
   | 10 => cases hi;exact c_if rfl rfl rfl (hpre 9 _ _ (by kernel_rfl) rfl rfl) (fun e => Free.g_field (v:=.pointer (some ⟨B,2,none⟩)) _ _ _ rfl ((hold 3 (by decide)).trans rfl) (by go_simp) ⟨rfl,hF⟩) hF
   | 11 => cases hi;exact c_if rfl rfl rfl (hpre 9 _ _ (by kernel_rfl) rfl rfl) (fun e => Free.g_field (v:=.pointer (some ⟨B,2,none⟩)) _ _ _ rfl ((hpre 10 _ _ (by kernel_rfl) rfl rfl).trans (if_pos e)) (by go_simp) ⟨rfl,hF⟩) hF
   | 12 => cases hi;exact c_if rfl rfl rfl (hpre 9 _ _ (by kernel_rfl) rfl rfl) (fun e => Free.g_load _ _ rfl ((hpre 11 _ _ (by kernel_rfl) rfl rfl).trans (if_pos e)) (ld_int (row_in HX.out hF rfl)) ⟨rfl,hF⟩) hF
   | 13 => cases hi;exact c_if rfl rfl rfl (hpre 9 _ _ (by kernel_rfl) rfl rfl) (fun e => Free.g_move _ rfl ⟨((hold 0 (by decide)).trans rfl),hF⟩) hF
   | 14 => cases hi;exact c_if rfl rfl rfl (hpre 9 _ _ (by kernel_rfl) rfl rfl) (fun e => Free.g_field (v:=.pointer (some ⟨B,0,none⟩)) _ _ _ rfl ((hold 3 (by decide)).trans rfl) (by go_simp) ⟨rfl,hF⟩) hF
   | 15 => cases hi;exact c_if rfl rfl rfl (hpre 9 _ _ (by kernel_rfl) rfl rfl) (fun e => Free.g_load _ _ rfl ((hpre 14 _ _ (by kernel_rfl) rfl rfl).trans (if_pos e)) (ld_int (row_in HX.out hF rfl)) ⟨rfl,hF⟩) hF
   | 16 => cases hi;exact c_if rfl rfl rfl (hpre 9 _ _ (by kernel_rfl) rfl rfl) (fun e => Free.g_indexAddr (v:=pt) _ _ _ rfl ((hpre 13 _ _ (by kernel_rfl) rfl rfl).trans (if_pos e)) ((hpre 15 _ _ (by kernel_rfl) rfl rfl).trans (if_pos e)) (HNA.out.ix (HI.out e) wa) ⟨rfl,hF⟩) hF
   | 17 => cases hi;exact c_if rfl rfl rfl (hpre 9 _ _ (by kernel_rfl) rfl rfl) (fun e => Free.g_load _ _ rfl ((hpre 16 _ _ (by kernel_rfl) rfl rfl).trans (if_pos e)) (HNA.out.ld (HI.out e) wa hF) ⟨rfl,hF⟩) hF
   | 18 => cases hi;exact c_if rfl rfl rfl (hpre 9 _ _ (by kernel_rfl) rfl rfl) (fun e => Free.g_call _ _ rfl Tryz.func59 (by kernel_rfl) rfl [.agg #[.int .u8 (y.nd.k : Nat),.int .u8 (y.nd.a : Nat),.int .i64 y.nd.b,.int .i64 y.nd.d,.slice y.A y.nd.ins.length y.c]] (cons_eq ((hpre 17 _ _ (by kernel_rfl) rfl rfl).trans (if_pos e)) (rfl)) ((HDP.out wa).mono fun e w2 ⟨he,hb2⟩ => ⟨_,he,rfl,hF.trans (hb2.mono hF.size)⟩)) hF
   | 19 => cases hi;exact c_if rfl rfl rfl (hpre 9 _ _ (by kernel_rfl) rfl rfl) (fun e => Free.g_bin _ _ _ _ _ rfl ((hpre 12 _ _ (by kernel_rfl) rfl rfl).trans (if_pos e)) ((hpre 18 _ _ (by kernel_rfl) rfl rfl).trans (if_pos e)) (eqi_b HD.out wa) ⟨rfl,hF⟩) hF
   | 20 => cases hi;exact Free.c_all rfl (pick_and rfl (hpre 9 _ _ (by kernel_rfl) rfl rfl) (hpre 19 _ _ (by kernel_rfl) rfl rfl) hF)
   | 21 => cases hi;exact Free.c_all rfl (Free.g_move _ rfl ⟨(hpre 20 _ _ (by kernel_rfl) rfl rfl),hF⟩)
   | 22 => cases hi;exact c_if rfl rfl rfl (hpre 21 _ _ (by kernel_rfl) rfl rfl) (fun e => Free.g_move _ rfl ⟨((hold 0 (by decide)).trans rfl),hF⟩) hF
   | 23 => cases hi;exact c_if rfl rfl rfl (hpre 21 _ _ (by kernel_rfl) rfl rfl) (fun e => Free.g_field (v:=.pointer (some ⟨B,0,none⟩)) _ _ _ rfl ((hold 3 (by decide)).trans rfl) (by go_simp) ⟨rfl,hF⟩) hF
   | 24 => cases hi;exact c_if rfl rfl rfl (hpre 21 _ _ (by kernel_rfl) rfl rfl) (fun e => Free.g_load _ _ rfl ((hpre 23 _ _ (by kernel_rfl) rfl rfl).trans (if_pos e)) (ld_int (row_in HX.out hF rfl)) ⟨rfl,hF⟩) hF
   | 25 => cases hi;exact c_if rfl rfl rfl (hpre 21 _ _ (by kernel_rfl) rfl rfl) (fun e => Free.g_indexAddr (v:=pt) _ _ _ rfl ((hpre 22 _ _ (by kernel_rfl) rfl rfl).trans (if_pos e)) ((hpre 24 _ _ (by kernel_rfl) rfl rfl).trans (if_pos e)) (HNA.out.ix (HI2.out e) wa) ⟨rfl,hF⟩) hF
   | 26 => cases hi;exact c_if rfl rfl rfl (hpre 21 _ _ (by kernel_rfl) rfl rfl) (fun e => Free.g_field (v:=pt) _ _ _ rfl ((hpre 25 _ _ (by kernel_rfl) rfl rfl).trans (if_pos e)) (HNA.out.f0 (HI2.out e) wa) ⟨rfl,hF⟩) hF
   | 27 => cases hi;exact c_if rfl rfl rfl (hpre 21 _ _ (by kernel_rfl) rfl rfl) (fun e => Free.g_load _ _ rfl ((hpre 26 _ _ (by kernel_rfl) rfl rfl).trans (if_pos e)) (HNA.out.k (HI2.out e) wa hF) ⟨rfl,hF⟩) hF
   | 28 => cases hi;exact c_if rfl rfl rfl (hpre 21 _ _ (by kernel_rfl) rfl rfl) (fun e => Free.g_field (v:=.pointer (some ⟨B,1,none⟩)) _ _ _ rfl ((hold 3 (by decide)).trans rfl) (by go_simp) ⟨rfl,hF⟩) hF
   | 29 => cases hi;exact c_if rfl rfl rfl (hpre 21 _ _ (by kernel_rfl) rfl rfl) (fun e => Free.g_load _ _ rfl ((hpre 28 _ _ (by kernel_rfl) rfl rfl).trans (if_pos e)) (ld_bool (row_in HX.out hF rfl)) ⟨rfl,hF⟩) hF
   | 30 => cases hi;exact c_if rfl rfl rfl (hpre 21 _ _ (by kernel_rfl) rfl rfl) (fun e => Free.g_call _ _ rfl Tryz.func105 (by kernel_rfl) rfl [.int .u8 (y.nd.k : Nat),.bool hd] (cons_eq ((hpre 27 _ _ (by kernel_rfl) rfl rfl).trans (if_pos e)) (cons_eq ((hpre 29 _ _ (by kernel_rfl) rfl rfl).trans (if_pos e)) (rfl))) ((HM.out wa).mono fun e w2 ⟨he,hb2⟩ => ⟨_,he,rfl,hF.trans (hb2.mono hF.size)⟩)) hF
   | 31 => cases hi;exact Free.c_all rfl (pick_and rfl (hpre 21 _ _ (by kernel_rfl) rfl rfl) (hpre 30 _ _ (by kernel_rfl) rfl rfl) hF)
   | 32 => cases hi;exact Free.c_all rfl (Free.g_assign _ rfl ⟨(hpre 31 _ _ (by kernel_rfl) rfl rfl),hF⟩)
   | _ + 33 => cases hi
 · intro vs we hv hF
   have f32 : vs 32 = .bool (((N && R) && DD) && K):=hv 32 (by simp) (by rintro o ⟨⟩;rfl)
   have HWE:=Hd hF;clear hF hv
   simp only [Free.puts,Nat.reduceAdd,f32]
   generalize vs 0 = y0,vs 1 = y1,vs 2 = y2,vs 3 = y3,vs 4 = y4,vs 5 = y5,vs 6 = y6,vs 7 = y7,vs 8 = y8,vs 9 = y9,vs 10 = y10,vs 11 = y11,vs 12 = y12,vs 13 = y13,vs 14 = y14,vs 15 = y15,vs 16 = y16,vs 17 = y17,vs 18 = y18,vs 19 = y19,vs 20 = y20,vs 21 = y21,vs 22 = y22,vs 23 = y23,vs 24 = y24,vs 25 = y25,vs 26 = y26,vs 27 = y27,vs 28 = y28,vs 29 = y29,vs 30 = y30,vs 31 = y31
   go_simp
   go_wp2_with fail
   go_ret
   exact ⟨rfl,HB.out.trans (HWE.out.mono HB.out.size)⟩
set_option maxHeartbeats 16000000 in
theorem refFits_any (A : Option Addr) (l : List Gn) (c : Nat) (nd : Int) (hd : Bool) (T : St) (w : World) (hG : Gr w A l) (hl : l.length ≤ 40) (hD : ∀ x ∈ nds l,-1000 ≤ x.d ∧ x.d ≤ 1000) :
 Calls Tryz.prog 62 #[.slice A l.length c,.agg #[.int .i64 nd,.bool hd,.int .i64 T.d,.int .i64 T.e,.int .i64 T.x,.int .i64 T.y,.int .i64 T.z]] w fun e w' => e = .returned (.bool (fitB (nds l) ⟨nd,hd,T⟩)) ∧ Below w.heap.size w w':=by
 obtain ⟨y,pt,hna,hyl,hdy⟩:=nodeAt (hG.below ((Below.refl _ _).alloc (Nat.le_refl _) (.cells #[.int .i64 nd,.bool hd,.int .i64 T.d,.int .i64 T.e,.int .i64 T.x,.int .i64 T.y,.int .i64 T.z] 48))) hD c nd
 have hb0 : Below w.heap.size w (w.alloc (.cells #[.int .i64 nd,.bool hd,.int .i64 T.d,.int .i64 T.e,.int .i64 T.x,.int .i64 T.y,.int .i64 T.z] 48)):=(Below.refl _ _).alloc (Nat.le_refl _) _
 have hg1:=hG.below hb0
 have hx0 : Row (w.alloc (.cells #[.int .i64 nd,.bool hd,.int .i64 T.d,.int .i64 T.e,.int .i64 T.x,.int .i64 T.y,.int .i64 T.z] 48)) w.heap.size 48 (Pl.cells ⟨nd,hd,T⟩):=Row.made w _ _
 rw [fitB_eq hyl]
 have hr:=fun wa => refRight_any T wa
 have hdp:=fun wa => inDepth_any y.nd y.A y.nd.ins.length y.c wa hdy
 have hnn : decide (0 ≤ nd ∧ nd < (l.length : Int)) = (!decide (nd < 0) && !decide ((l.length : Int) ≤ nd)):=by
  by_cases h0 : nd < 0
  · rw [decide_eq_true h0,decide_eq_false (by omega)];rfl
  · rw [decide_eq_false h0]
    by_cases h1 : (l.length : Int) ≤ nd
    · rw [decide_eq_true h1,decide_eq_false (by omega)];rfl
    · rw [decide_eq_false h1,decide_eq_true (by omega)];rfl
 have hgo : ∀ (q : decide (0 ≤ nd ∧ nd < (l.length : Int)) = true),∃ (i b o : Nat),nd = (i : Nat) ∧ (i : Int) < (l.length : Int) ∧ A = some ⟨b,o,none⟩ ∧ ∀ w',Below (w.alloc (.cells #[.int .i64 nd,.bool hd,.int .i64 T.d,.int .i64 T.e,.int .i64 T.x,.int .i64 T.y,.int .i64 T.z] 48)).heap.size (w.alloc (.cells #[.int .i64 nd,.bool hd,.int .i64 T.d,.int .i64 T.e,.int .i64 T.x,.int .i64 T.y,.int .i64 T.z] 48)) w' → w'.cell? ⟨b,o + i * 5,none⟩ = some (.int .u8 (y.nd.k : Nat)):=fun q => by
  have q:=of_decide_eq_true q
  obtain ⟨b,o,e,_,hc⟩:=hg1.at_ (hyl q)
  exact ⟨nd.toNat,b,o,by omega,by omega,e,fun w' hb => (hc w' hb).1⟩
 rw [hnn] at hna hgo ⊢
 clear hnn hyl
 obtain ⟨NEG,hq1⟩ : ∃ b,decide (nd < 0) = b:=⟨_,rfl⟩
 obtain ⟨BIG,hq2⟩ : ∃ b,decide ((l.length : Int) ≤ nd) = b:=⟨_,rfl⟩
 rw [hq1,hq2] at hna hgo ⊢
 have HNEG:=Hd hq1;have HBIG:=Hd hq2;clear hq1 hq2
 generalize l.length = n at *
 generalize decide T.R = R at *
 generalize y.nd.inD = D at *
 have hdd : decide (T.d = D) = !decide (T.d ≠ D):=by by_cases e : T.d = D <;> simp [e]
 rw [hdd]
 clear hdd
 obtain ⟨DD,hq⟩ : ∃ b,decide (T.d ≠ D) = b:=⟨_,rfl⟩
 rw [hq]
 have HD:=Hd hq;clear hq
 obtain ⟨K,hk⟩ : ∃ b,mayK y.nd.k hd = b:=⟨_,rfl⟩
 rw [hk]
 have HM:=Hd hk;clear hk
 rw [show (!NEG && !BIG && R && !DD && K) = (!(NEG || BIG || !R || DD) && K) by cases NEG <;> cases BIG <;> cases R <;> cases DD <;> rfl]
 obtain ⟨Q,hQ⟩ : ∃ Q,(NEG || BIG || !R || DD) = Q:=⟨_,rfl⟩
 rw [hQ]
 have HQ2:=Hd (show Q = false → (!NEG && !BIG) = true by rw [← hQ];cases NEG <;> cases BIG <;> simp)
 have HQ:=Hd hQ;clear hQ
 have HI:=Hd (show (NEG || BIG || !R) = false → (!NEG && !BIG) = true by cases NEG <;> cases BIG <;> simp)
 have HX:=Hd hx0;have HB:=Hd hb0;have HR:=Hd hr;have HDP:=Hd hdp;have HNA:=Hd hna;have HGO:=Hd hgo
 clear hx0 hb0 hr hdp hna hG hD hdy hg1 hgo
 unfold St.val at *
 go_enter Tryz.func62,Tryz.ntmps62
 go_upto_region 1 with fail
 generalize w.alloc (.cells #[.int .i64 nd,.bool hd,.int .i64 T.d,.int .i64 T.e,.int .i64 T.x,.int .i64 T.y,.int .i64 T.z] 48) = w1 at *
 generalize w.heap.size = B at HX ⊢
 refine Free.wp_guarded (by kernel_rfl) (by kernel_rfl) (fun w' => Below w1.heap.size w1 w') (Fit_ A n c B nd hd T y pt D NEG BIG R DD) ((Below.refl _ _).drew) ?_ ?_
 · intro i o hi a wa hold hpre hF
   match i with
   | 0 => cases hi;exact Free.c_all rfl (Free.g_field (v:=.pointer (some ⟨B,0,none⟩)) _ _ _ rfl ((hold 3 (by decide)).trans rfl) (by go_simp) ⟨rfl,hF⟩)
   | 1 => cases hi;exact Free.c_all rfl (Free.g_load _ _ rfl (hpre 0 _ _ (by kernel_rfl) rfl rfl) (ld_int (row_in HX.out hF rfl)) ⟨rfl,hF⟩)
   | 2 => cases hi;exact Free.c_all rfl (Free.g_bin _ _ _ _ _ rfl (hpre 1 _ _ (by kernel_rfl) rfl rfl) rfl (lsi_b HNEG.out wa) ⟨rfl,hF⟩)
   | 3 => cases hi;exact Free.c_all rfl (Free.g_move _ rfl ⟨(hpre 2 _ _ (by kernel_rfl) rfl rfl),hF⟩)
   | 4 => cases hi;exact c_if rfl rfl rfl (hpre 3 _ _ (by kernel_rfl) rfl rfl) (fun e => Free.g_field (v:=.pointer (some ⟨B,0,none⟩)) _ _ _ rfl ((hold 3 (by decide)).trans rfl) (by go_simp) ⟨rfl,hF⟩) hF
   | 5 => cases hi;exact c_if rfl rfl rfl (hpre 3 _ _ (by kernel_rfl) rfl rfl) (fun e => Free.g_load _ _ rfl ((hpre 4 _ _ (by kernel_rfl) rfl rfl).trans (if_pos e)) (ld_int (row_in HX.out hF rfl)) ⟨rfl,hF⟩) hF
   | 6 => cases hi;exact c_if rfl rfl rfl (hpre 3 _ _ (by kernel_rfl) rfl rfl) (fun e => Free.g_move _ rfl ⟨((hold 0 (by decide)).trans rfl),hF⟩) hF
   | 7 => cases hi;exact c_if rfl rfl rfl (hpre 3 _ _ (by kernel_rfl) rfl rfl) (fun e => Free.g_len _ _ rfl ((hpre 6 _ _ (by kernel_rfl) rfl rfl).trans (if_pos e)) (run_len_slice wa _ _ _ _ _ Tryz.underlying23) ⟨rfl,hF⟩) hF
   | 8 => cases hi;exact c_if rfl rfl rfl (hpre 3 _ _ (by kernel_rfl) rfl rfl) (fun e => Free.g_bin _ _ _ _ _ rfl ((hpre 5 _ _ (by kernel_rfl) rfl rfl).trans (if_pos e)) ((hpre 7 _ _ (by kernel_rfl) rfl rfl).trans (if_pos e)) (gei_b HBIG.out wa) ⟨rfl,hF⟩) hF
   | 9 => cases hi;exact Free.c_all rfl (pick_or rfl (hpre 3 _ _ (by kernel_rfl) rfl rfl) (hpre 8 _ _ (by kernel_rfl) rfl rfl) hF)
   | 10 => cases hi;exact Free.c_all rfl (Free.g_move _ rfl ⟨(hpre 9 _ _ (by kernel_rfl) rfl rfl),hF⟩)
   | 11 => cases hi;exact c_if rfl rfl rfl (hpre 10 _ _ (by kernel_rfl) rfl rfl) (fun e => Free.g_field (v:=.pointer (some ⟨B,2,none⟩)) _ _ _ rfl ((hold 3 (by decide)).trans rfl) (by go_simp) ⟨rfl,hF⟩) hF
   | 12 => cases hi;exact c_if rfl rfl rfl (hpre 10 _ _ (by kernel_rfl) rfl rfl) (fun e => Free.g_load _ _ rfl ((hpre 11 _ _ (by kernel_rfl) rfl rfl).trans (if_pos e)) (ld_at ⟨nd,hd,T⟩ HX.out hF) ⟨rfl,hF⟩) hF
   | 13 => cases hi;exact c_if rfl rfl rfl (hpre 10 _ _ (by kernel_rfl) rfl rfl) (fun e => Free.g_call _ _ rfl Tryz.func112 (by kernel_rfl) rfl [.agg #[.int .i64 T.d,.int .i64 T.e,.int .i64 T.x,.int .i64 T.y,.int .i64 T.z]] (cons_eq ((hpre 12 _ _ (by kernel_rfl) rfl rfl).trans (if_pos e)) (rfl)) ((HR.out wa).mono fun e w2 ⟨he,hb2⟩ => ⟨_,he,rfl,hF.trans (hb2.mono hF.size)⟩)) hF
   | 14 => cases hi;exact c_if rfl rfl rfl (hpre 10 _ _ (by kernel_rfl) rfl rfl) (fun e => g_not' _ _ rfl ((hpre 13 _ _ (by kernel_rfl) rfl rfl).trans (if_pos e)) ⟨rfl,hF⟩) hF
   | 15 => cases hi;exact Free.c_all rfl (pick_or rfl (hpre 10 _ _ (by kernel_rfl) rfl rfl) (hpre 14 _ _ (by kernel_rfl) rfl rfl) hF)
   | 16 => cases hi;exact Free.c_all rfl (Free.g_move _ rfl ⟨(hpre 15 _ _ (by kernel_rfl) rfl rfl),hF⟩)
   | 17 => cases hi;exact c_if rfl rfl rfl (hpre 16 _ _ (by kernel_rfl) rfl rfl) (fun e => Free.g_field (v:=.pointer (some ⟨B,2,none⟩)) _ _ _ rfl ((hold 3 (by decide)).trans rfl) (by go_simp) ⟨rfl,hF⟩) hF
   | 18 => cases hi;exact c_if rfl rfl rfl (hpre 16 _ _ (by kernel_rfl) rfl rfl) (fun e => Free.g_field (v:=.pointer (some ⟨B,2,none⟩)) _ _ _ rfl ((hpre 17 _ _ (by kernel_rfl) rfl rfl).trans (if_pos e)) (by go_simp) ⟨rfl,hF⟩) hF
   | 19 => cases hi;exact c_if rfl rfl rfl (hpre 16 _ _ (by kernel_rfl) rfl rfl) (fun e => Free.g_load _ _ rfl ((hpre 18 _ _ (by kernel_rfl) rfl rfl).trans (if_pos e)) (ld_int (row_in HX.out hF rfl)) ⟨rfl,hF⟩) hF
   | 20 => cases hi;exact c_if rfl rfl rfl (hpre 16 _ _ (by kernel_rfl) rfl rfl) (fun e => Free.g_move _ rfl ⟨((hold 0 (by decide)).trans rfl),hF⟩) hF
   | 21 => cases hi;exact c_if rfl rfl rfl (hpre 16 _ _ (by kernel_rfl) rfl rfl) (fun e => Free.g_field (v:=.pointer (some ⟨B,0,none⟩)) _ _ _ rfl ((hold 3 (by decide)).trans rfl) (by go_simp) ⟨rfl,hF⟩) hF
   | 22 => cases hi;exact c_if rfl rfl rfl (hpre 16 _ _ (by kernel_rfl) rfl rfl) (fun e => Free.g_load _ _ rfl ((hpre 21 _ _ (by kernel_rfl) rfl rfl).trans (if_pos e)) (ld_int (row_in HX.out hF rfl)) ⟨rfl,hF⟩) hF
   | 23 => cases hi;exact c_if rfl rfl rfl (hpre 16 _ _ (by kernel_rfl) rfl rfl) (fun e => Free.g_indexAddr (v:=pt) _ _ _ rfl ((hpre 20 _ _ (by kernel_rfl) rfl rfl).trans (if_pos e)) ((hpre 22 _ _ (by kernel_rfl) rfl rfl).trans (if_pos e)) (HNA.out.ix (HI.out e) wa) ⟨rfl,hF⟩) hF
   | 24 => cases hi;exact c_if rfl rfl rfl (hpre 16 _ _ (by kernel_rfl) rfl rfl) (fun e => Free.g_load _ _ rfl ((hpre 23 _ _ (by kernel_rfl) rfl rfl).trans (if_pos e)) (HNA.out.ld (HI.out e) wa hF) ⟨rfl,hF⟩) hF
   | 25 => cases hi;exact c_if rfl rfl rfl (hpre 16 _ _ (by kernel_rfl) rfl rfl) (fun e => Free.g_call _ _ rfl Tryz.func66 (by kernel_rfl) rfl [.agg #[.int .u8 (y.nd.k : Nat),.int .u8 (y.nd.a : Nat),.int .i64 y.nd.b,.int .i64 y.nd.d,.slice y.A y.nd.ins.length y.c]] (cons_eq ((hpre 24 _ _ (by kernel_rfl) rfl rfl).trans (if_pos e)) (rfl)) ((HDP.out wa).mono fun e w2 ⟨he,hb2⟩ => ⟨_,he,rfl,hF.trans (hb2.mono hF.size)⟩)) hF
   | 26 => cases hi;exact c_if rfl rfl rfl (hpre 16 _ _ (by kernel_rfl) rfl rfl) (fun e => Free.g_bin _ _ _ _ _ rfl ((hpre 19 _ _ (by kernel_rfl) rfl rfl).trans (if_pos e)) ((hpre 25 _ _ (by kernel_rfl) rfl rfl).trans (if_pos e)) (nei_b HD.out wa) ⟨rfl,hF⟩) hF
   | 27 => cases hi;exact Free.c_all rfl (pick_or rfl (hpre 16 _ _ (by kernel_rfl) rfl rfl) (hpre 26 _ _ (by kernel_rfl) rfl rfl) hF)
   | _ + 28 => cases hi
 · intro vs we hv hF
   have f27 : vs 27 = .bool (((NEG || BIG) || (!R)) || DD):=hv 27 (by simp) (by rintro o ⟨⟩;rfl)
   have HWE:=Hd hF;clear hF hv
   simp only [Free.puts,Nat.reduceAdd,f27]
   generalize vs 0 = y0,vs 1 = y1,vs 2 = y2,vs 3 = y3,vs 4 = y4,vs 5 = y5,vs 6 = y6,vs 7 = y7,vs 8 = y8,vs 9 = y9,vs 10 = y10,vs 11 = y11,vs 12 = y12,vs 13 = y13,vs 14 = y14,vs 15 = y15,vs 16 = y16,vs 17 = y17,vs 18 = y18,vs 19 = y19,vs 20 = y20,vs 21 = y21,vs 22 = y22,vs 23 = y23,vs 24 = y24,vs 25 = y25,vs 26 = y26
   go_simp
   rw [HQ.out]
   clear HQ
   cases Q with
   | true =>
     go_wp2_with fail
     go_ret
     exact ⟨rfl,HB.out.trans (HWE.out.mono HB.out.size)⟩
   | false =>
     obtain ⟨i,gb,go,rfl,hiz,rfl,hcl⟩:=HGO.out (HQ2.out rfl)
     have k0:=hcl _ HWE.out
     have hr0:=HX.out.below HWE.out HX.out.lt
     have c0:=hr0.cell 0
     have c1:=hr0.cell 1
     simp only [List.getElem?_cons_succ,List.getElem?_cons_zero] at c0 c1
     have HB2:=Hd (HB.out.trans (HWE.out.mono HB.out.size));clear hr0 hcl HQ2
     unfold mayK at HM
     cases hd with
     | false =>
       rw [if_neg (by simp)] at HM
       by_cases h1 : y.nd.k = 1
       · have z1 : (((y.nd.k : Nat) : Int) != 1) = false:=by simp;omega
         rw [decide_eq_true h1] at HM
         go_wp2_with fail
         go_ret
         exact ⟨by rw [← HM.out];rfl,HB2.out⟩
       · have z1 : (((y.nd.k : Nat) : Int) != 1) = true:=by simp;omega
         rw [decide_eq_false h1] at HM
         go_wp2_with fail
         go_ret
         exact ⟨by rw [← HM.out];rfl,HB2.out⟩
     | true =>
       rw [if_pos rfl] at HM
       by_cases h1 : y.nd.k = 1
       · have z1 : (((y.nd.k : Nat) : Int) == 1) = true:=by simp;omega
         rw [decide_eq_true h1] at HM
         go_wp2_with fail
         go_ret
         exact ⟨by rw [← HM.out];rfl,HB2.out⟩
       · have z1 : (((y.nd.k : Nat) : Int) == 1) = false:=by simp;omega
         rw [decide_eq_false h1] at HM
         by_cases h5 : y.nd.k = 5
         · have z5 : (((y.nd.k : Nat) : Int) == 5) = true:=by simp;omega
           rw [decide_eq_true h5] at HM
           go_wp2_with fail
           go_ret
           exact ⟨by rw [← HM.out];rfl,HB2.out⟩
         · have z5 : (((y.nd.k : Nat) : Int) == 5) = false:=by simp;omega
           rw [decide_eq_false h5] at HM
           by_cases h6 : y.nd.k = 6
           · have z6 : (((y.nd.k : Nat) : Int) == 6) = true:=by simp;omega
             rw [decide_eq_true h6] at HM
             go_wp2_with fail
             go_ret
             exact ⟨by rw [← HM.out];rfl,HB2.out⟩
           · have z6 : (((y.nd.k : Nat) : Int) == 6) = false:=by simp;omega
             rw [decide_eq_false h6] at HM
             go_wp2_with fail
             go_ret
             exact ⟨by rw [← HM.out];rfl,HB2.out⟩
end

section
theorem anyP_true {α : Type} {p : α → Bool} {xs : List α} {k : Nat} {t : α} (h : xs[k]? = some t) (hq : p t = true) : true = xs.any p:=(List.any_eq_true.2 ⟨t,List.mem_of_getElem? h,hq⟩).symm
theorem anyP_false {α : Type} {p : α → Bool} {xs : List α} (h : ∀ (j : Nat) (t : α),xs[j]? = some t → p t = false) : false = xs.any p:=by
 rw [eq_comm,List.any_eq_false]
 intro t ht hp
 obtain ⟨j,hj⟩:=List.getElem?_of_mem ht
 rw [h j t hj] at hp;cases hp
theorem pl_seven {w : World} {A : Option Addr} {xs : List Pl} (h : Rw.Ts kindC w A xs) {i : Nat} {x : Pl} (hi : xs[i]? = some x) : ∃ b o,A = some ⟨b,o,none⟩ ∧ b < w.heap.size ∧ ∀ w',Below w.heap.size w w' →
 w'.cell? ⟨b,o + i * 7,none⟩ = some (.int .i64 x.nd) ∧ w'.cell? ⟨b,o + i * 7 + 1,none⟩ = some (.bool x.held) ∧ w'.cell? ⟨b,o + i * 7 + 2,none⟩ = some (.int .i64 x.at_.d) ∧ w'.cell? ⟨b,o + i * 7 + 3,none⟩ = some (.int .i64 x.at_.e) ∧ w'.cell? ⟨b,o + i * 7 + 4,none⟩ = some (.int .i64 x.at_.x) ∧ w'.cell? ⟨b,o + i * 7 + 5,none⟩ = some (.int .i64 x.at_.y) ∧ w'.cell? ⟨b,o + i * 7 + 6,none⟩ = some (.int .i64 x.at_.z):=by
 obtain ⟨b,o,e,hlt,hc⟩:=h.at_ hi
 exact ⟨b,o,e,hlt,fun w' hb => ⟨hc w' hb 0 _ rfl,hc w' hb 1 _ rfl,hc w' hb 2 _ rfl,hc w' hb 3 _ rfl,hc w' hb 4 _ rfl,hc w' hb 5 _ rfl,hc w' hb 6 _ rfl⟩⟩
theorem wrong_any (A : Option Addr) (l : List Gn) (c B : Nat) (x : Pl) (w : World) (hG : Gr w A l) (hD : ∀ x ∈ nds l,-1000 ≤ x.d ∧ x.d ≤ 1000) (hB : w.cell? ⟨B,0,none⟩ = some (.slice A l.length c)) :
 Calls Tryz.prog 53 #[x.v,.pointer (some ⟨B,0,none⟩)] w fun e w' => e = .returned (.bool (!fitB (nds l) x)) ∧ Below w.heap.size w w':=by
 have hb0 : Below w.heap.size w (w.alloc (.cells #[.int .i64 x.nd,.bool x.held,.int .i64 x.at_.d,.int .i64 x.at_.e,.int .i64 x.at_.x,.int .i64 x.at_.y,.int .i64 x.at_.z] 50)):=(Below.refl _ _).alloc (Nat.le_refl _) _
 have hc:=rightIn_any A l c x.nd x.held x.at_ _ (hG.below hb0) hD
 have hB1:=cell_below hB hb0
 have HC:=Hd hc;have HB:=Hd hb0;clear hc hb0 hG hD
 obtain ⟨nd,hd,T⟩:=x
 simp only at *
 go_enter Tryz.func53,Tryz.ntmps53
 go_wp2_with fail
 refine HC.out.mono ?_;rintro e w1 ⟨rfl,hb1⟩
 have HB1:=Hd (HB.out.trans (hb1.mono HB.out.size));clear hb1
 dsimp only
 go_wp2_with fail
 go_ret
 exact ⟨rfl,HB1.out⟩
def IdxWrong (b : Bool) (w : World) (e : Ending) (w' : World) : Prop:=(∃ i : Int,e = .returned (.int .i64 i) ∧ decide (0 ≤ i) = b) ∧ Below w.heap.size w w'
set_option maxHeartbeats 4000000 in
theorem indexWrong_any (A : Option Addr) (l : List Gn) (c B : Nat) (xA : Option Addr) (xs : List Pl) (c1 : Nat) (w : World) (hA : Rw.Ts kindC w xA xs) (h1 : xs.length ≤ maxLen) (hG : Gr w A l) (hD : ∀ x ∈ nds l,-1000 ≤ x.d ∧ x.d ≤ 1000) (hB : w.cell? ⟨B,0,none⟩ = some (.slice A l.length c)) :
 Calls Tryz.prog 106 #[.slice xA xs.length c1,.func (.func 53) #[] #[.pointer (some ⟨B,0,none⟩)]] w (IdxWrong (xs.any fun x => !fitB (nds l) x) w):=by
 have eg : ∀ args w,(callFunc 53 args).run Tryz.prog w = .ok (.enter 53 args) w:=enters_of Tryz.func53 (by kernel_rfl) rfl
 have HC0:=Hd fun (t : Pl) (wr : World) (hb : Below w.heap.size w wr) => wrong_any A l c B t wr (hG.below hb) hD (cell_below hB hb)
 unfold maxLen at h1
 have HA:=Hd hA;clear hA
 go_enter Tryz.func106,Tryz.ntmps106
 go_wp2_with fail
 go_loopw [8] (fun i wr => ∃ k : Nat,k ≤ xs.length ∧ i = .int .i64 k ∧ Below w.heap.size w wr ∧ ∀ (j : Nat) (t : Pl),j < k → xs[j]? = some t → (fun x => !fitB (nds l) x) t = false) (fun i _ => xs.length - (intOf i).toNat)
 case atStart => exact ⟨0,by omega,rfl,Below.refl _ _,fun j t h => absurd h (by omega)⟩
 case round =>
  obtain ⟨k,hk,rfl,hb,hno⟩:=hrel
  have HB:=Hd hb;clear hb
  have HNO:=Hd hno;clear hno
  by_cases hlt : k < xs.length
  · have hltz : (k : Int) < (xs.length : Int):=by omega
    obtain ⟨t,ht⟩ : ∃ t,xs[k]? = some t:=⟨_,List.getElem?_eq_getElem hlt⟩
    obtain ⟨b,o,rfl,hbl,hld⟩:=pl_seven HA.out ht
    obtain ⟨c0,c1,c2,c3,c4,c5,c6⟩:=hld _ HB.out
    have hcall:=HC0.out t wr HB.out
    have HT:=Hd ht;clear ht hld
    unfold Pl.v at hcall
    cases hq : (fun x => !fitB (nds l) x) t with
    | true =>
      simp only [] at hq hcall
      rw [hq] at hcall
      have HQ:=Hd hq;have HC:=Hd hcall;clear hq hcall
      go_wp2_with fail
      refine HC.out.mono ?_;rintro e w1 ⟨rfl,hb1⟩
      have HB1:=Hd (HB.out.trans (hb1.mono HB.out.size));clear hb1 c0 c1 c2 c3 c4 c5 c6
      go_wp2_with fail
      go_ret
      exact ⟨⟨k,rfl,by rw [decide_eq_true (by omega)];exact anyP_true (p:=fun x => !fitB (nds l) x) HT.out HQ.out⟩,HB1.out⟩
    | false =>
      simp only [] at hq hcall
      rw [hq] at hcall
      have HQ:=Hd hq;have HC:=Hd hcall;clear hq hcall
      go_wp2_with fail
      refine HC.out.mono ?_;rintro e w1 ⟨rfl,hb1⟩
      have HB1:=Hd (HB.out.trans (hb1.mono HB.out.size));clear hb1 c0 c1 c2 c3 c4 c5 c6
      go_wp2_with fail
      go_roundw
      case rel =>
       refine ⟨k + 1,by omega,by simp,HB1.out,fun j t' hj ht' => ?_⟩
       by_cases e : j = k
       · subst e
         rw [HT.out] at ht';cases ht'
         exact HQ.out
       · exact HNO.out j t' (by omega) ht'
      case measure => simp only [intOf];omega
  · have hltz : ¬ (k : Int) < (xs.length : Int):=by omega
    go_wp2_with fail
    go_ret
    exact ⟨⟨-1,rfl,by rw [decide_eq_false (by omega)];exact anyP_false (p:=fun x => !fitB (nds l) x) fun j t ht => HNO.out j t (by have:=(List.getElem?_eq_some_iff.1 ht).1;omega) ht⟩,HB.out⟩
theorem containsWrong_any (A : Option Addr) (l : List Gn) (c B : Nat) (xA : Option Addr) (xs : List Pl) (c1 : Nat) (w : World) (hA : Rw.Ts kindC w xA xs) (h1 : xs.length ≤ maxLen) (hG : Gr w A l) (hD : ∀ x ∈ nds l,-1000 ≤ x.d ∧ x.d ≤ 1000) (hB : w.cell? ⟨B,0,none⟩ = some (.slice A l.length c)) :
 Calls Tryz.prog 56 #[.slice xA xs.length c1,.func (.func 53) #[] #[.pointer (some ⟨B,0,none⟩)]] w fun e w' => e = .returned (.bool (xs.any fun x => !fitB (nds l) x)) ∧ Below w.heap.size w w':=by
 have H:=Hd (indexWrong_any A l c B xA xs c1 w hA h1 hG hD hB);clear hA
 generalize (xs.any fun x => !fitB (nds l) x) = v at *
 go_enter Tryz.func56,Tryz.ntmps56
 go_wp2_with fail
 refine H.out.mono ?_;rintro e w1 ⟨⟨i,rfl,hi⟩,hb1⟩
 have HI:=Hd hi;have HB1:=Hd hb1;clear hi hb1
 dsimp only
 go_wp2_with fail
 go_ret
 exact ⟨retb HI.out,HB1.out⟩
end
end Go.Proofs.YtonelpnhoiajgaaGreatDoor
