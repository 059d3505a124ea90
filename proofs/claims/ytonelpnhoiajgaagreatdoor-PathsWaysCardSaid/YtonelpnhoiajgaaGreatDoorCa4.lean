import Derived.Test.YtonelpnhoiajgaaGreatDoorHd
import Derived.Test.YtonelpnhoiajgaaGreatDoorCa0
import Derived.Laws.AppendOwnNone
import Derived.OwnWalk
import Derived.Maps.AppendAt
import Derived.Deep.Slices
import Derived.SizedLaws
import Derived.Lib.Hide
import Derived.BigRegion
import Derived.RegionTactic
import Derived.ChangeAlike
import Derived.Deep.DeepCutAuto
import Derived.Deep.CutRange
namespace Go.Proofs.YtonelpnhoiajgaaGreatDoor
set_option linter.unusedSimpArgs false
set_option maxRecDepth 100000
open Go.ChangeShapes Go.WideShapes Go.ChangeAt Go.RowKit Go.BigFrame
set_option linter.unusedVariables false
section
open Go.RowKit
structure Kind (α : Type) where
 cells : α → List Value
 K : Nat
 len : ∀ t,(cells t).length = K
 one : ∀ t,∀ u ∈ cells t,u.oneCell' = true
 pos : 0 < K
namespace Rw
theorem grown_below {w w' : World} (h : Below w.heap.size w w') (row : Option Nat) : w.grownBy w' row:=⟨h.os,h.tape,h.output,h.size,fun k hk _ => h.block k hk⟩
section
variable {α : Type} {κ : Kind α}
def row (κ : Kind α) (ts : List α) : List Value:=(ts.map κ.cells).flatten
theorem row_nil : row κ [] = []:=rfl
theorem row_cons (t : α) (ts : List α) : row κ (t :: ts) = κ.cells t ++ row κ ts:=by simp [row]
theorem row_append (ts us : List α) : row κ (ts ++ us) = row κ ts ++ row κ us:=by simp [row]
theorem row_len (ts : List α) : (row κ ts).length = ts.length * κ.K:=by
 induction ts with
 | nil => simp [row]
 | cons t ts ih => rw [row_cons,List.length_append,ih,κ.len,List.length_cons,Nat.succ_mul];omega
theorem row_at : ∀ (ts : List α) (i : Nat) (t : α),ts[i]? = some t → ∀ (j : Nat) (u : Value),(κ.cells t)[j]? = some u → (row κ ts)[i * κ.K + j]? = some u
 | x :: ts,0,t,h,j,u,hu => by
   obtain rfl : x = t:=by simpa using h
   have hj:=(List.getElem?_eq_some_iff.1 hu).1
   rw [row_cons,Nat.zero_mul,Nat.zero_add,List.getElem?_append_left hj];exact hu
 | x :: ts,i + 1,t,h,j,u,hu => by
   have:=row_at ts i t (by simpa using h) j u hu
   rw [row_cons,List.getElem?_append_right (by rw [κ.len,Nat.succ_mul];omega),κ.len,Nat.succ_mul,show i * κ.K + κ.K + j - κ.K = i * κ.K + j by omega]
   exact this
theorem row_one (ts : List α) : ∀ u ∈ row κ ts,u.oneCell' = true:=by
 intro u hu
 simp only [row,List.mem_flatten,List.mem_map] at hu
 obtain ⟨l,⟨t,_,rfl⟩,hu⟩:=hu
 exact κ.one t u hu
theorem row_take (ts : List α) (k : Nat) : row κ (ts.take k) = (row κ ts).take (k * κ.K):=by
 induction ts generalizing k with
 | nil => simp [row]
 | cons t ts ih =>
   cases k with
   | zero => simp [row]
   | succ k => rw [List.take_succ_cons,row_cons,row_cons,ih,List.take_append,κ.len,List.take_of_length_le (l:=κ.cells t) (by rw [κ.len,Nat.succ_mul];omega),Nat.succ_mul,show k * κ.K + κ.K - κ.K = k * κ.K by omega]
theorem row_drop (ts : List α) (k : Nat) : row κ (ts.drop k) = (row κ ts).drop (k * κ.K):=by
 induction ts generalizing k with
 | nil => simp [row]
 | cons t ts ih =>
   cases k with
   | zero => simp
   | succ k => rw [List.drop_succ_cons,row_cons,ih,List.drop_append,κ.len,List.drop_of_length_le (l:=κ.cells t) (by rw [κ.len,Nat.succ_mul];omega),Nat.succ_mul,show k * κ.K + κ.K - κ.K = k * κ.K by omega];simp
def Ts (κ : Kind α) (w : World) (A : Option Addr) (ts : List α) : Prop :=
 0 < ts.length → ∃ b o,A = some ⟨b,o,none⟩ ∧ b < w.heap.size ∧ ∀ (j : Nat) (u : Value),(row κ ts)[j]? = some u → w.cell? ⟨b,o + j,none⟩ = some u
end
section
variable {α : Type} {κ : Kind α} {w w' : World} {A : Option Addr} {ts : List α}
theorem Ts.below (h : Ts κ w A ts) (hb : Below w.heap.size w w') : Ts κ w' A ts:=fun hn => by
 obtain ⟨b,o,e,hlt,hc⟩:=h hn
 exact ⟨b,o,e,Nat.lt_of_lt_of_le hlt hb.size,fun j u hu => (hb.cell (p:=⟨b,o + j,none⟩) hlt).trans (hc j u hu)⟩
theorem Ts.nil : Ts κ w A []:=fun h => absurd h (by simp)
theorem Ts.made (w : World) (ts : List α) (t : TypeId) : Ts κ (w.alloc (.cells (row κ ts).toArray t)) (some ⟨w.heap.size,0,none⟩) ts:=fun _ => by
 have h : Row (w.alloc (.cells (row κ ts).toArray t)) w.heap.size t (row κ ts):=Row.made w _ _
 exact ⟨_,0,rfl,h.lt,fun j u hu => by rw [Nat.zero_add];exact (h.cell j).trans hu⟩
theorem Ts.of_row {g : Nat} {t : TypeId} (h : Row w g t (row κ ts)) : Ts κ w (some ⟨g,0,none⟩) ts:=fun _ =>
 ⟨_,0,rfl,h.lt,fun j u hu => by rw [Nat.zero_add];exact (h.cell j).trans hu⟩
theorem Ts.take (h : Ts κ w A ts) (k : Nat) : Ts κ w A (ts.take k):=fun hn => by
 obtain ⟨b,o,e,hlt,hc⟩:=h (by rw [List.length_take] at hn;omega)
 refine ⟨b,o,e,hlt,fun j u hu => hc j u ?_⟩
 rw [row_take,List.getElem?_take] at hu
 split at hu
 · exact hu
 · cases hu
theorem Ts.drop {b o : Nat} (h : Ts κ w (some ⟨b,o,none⟩) ts) (k : Nat) : Ts κ w (some ⟨b,o + k * κ.K,none⟩) (ts.drop k):=fun hn => by
 obtain ⟨b',o',e,hlt,hc⟩:=h (by rw [List.length_drop] at hn;omega)
 cases e
 refine ⟨b,o + k * κ.K,rfl,hlt,fun j u hu => ?_⟩
 rw [row_drop,List.getElem?_drop] at hu
 rw [Nat.add_assoc];exact hc _ u hu
theorem Ts.at_ (h : Ts κ w A ts) {i : Nat} {t : α} (hi : ts[i]? = some t) : ∃ b o,A = some ⟨b,o,none⟩ ∧ b < w.heap.size ∧
 ∀ w',Below w.heap.size w w' → ∀ (j : Nat) (v : Value),(κ.cells t)[j]? = some v → w'.cell? ⟨b,o + i * κ.K + j,none⟩ = some v:=by
 obtain ⟨hl,_⟩:=List.getElem?_eq_some_iff.1 hi
 obtain ⟨b,o,e,hlt,hc⟩:=h (by omega)
 refine ⟨b,o,e,hlt,fun w' hb j v hj => ?_⟩
 rw [hb.cell (p:=⟨b,o + i * κ.K + j,none⟩) hlt,Nat.add_assoc]
 exact hc _ v (row_at ts i t hi j v hj)
end
section
variable {α : Type} {κ : Kind α} {w w' : World} {base n : Nat} {v : Value} {ts : List α} {T : TypeId}
theorem Ts.of_own (h : w.ownsRow base T κ.K v n (row κ ts)) :
 ∃ A c,v = .slice A ts.length c ∧ Ts κ w A ts ∧ ts.length ≤ c ∧ c ≤ maxLen ∧ (A = none → c = 0) ∧ ∀ ad,A = some ad → base ≤ ad.block:=by
 have hl : ts.length = n:=by
  have:=h.1;rw [row_len] at this
  exact Nat.eq_of_mul_eq_mul_right κ.pos this
 obtain ⟨_,⟨rfl,h0⟩ | ⟨g,cap,cur,rfl,hg,hh,h1,h2,_,ht⟩⟩:=id h
 · exact ⟨none,0,by rw [hl,h0],fun hn => by omega,by omega,by simp,fun _ => rfl,fun _ e => by cases e⟩
 · refine ⟨some ⟨g,0,none⟩,cap,by rw [hl],fun _ => ⟨g,0,rfl,?_,fun j u hj => ?_⟩,by omega,h2,by simp,fun ad e => by cases e;exact hg⟩
   · by_cases hg : g < w.heap.size
     · exact hg
     · rw [Array.getElem?_eq_none (by omega)] at hh;cases hh
   · have:=h.cells (g:=g) rfl j u hj
     rw [Nat.zero_add]
     rwa [add_zero_off] at this
theorem own_kept {xs : List Value} {K : Nat} (h : w.ownsRow base T K v n xs) (hb : Below w.heap.size w w') : w'.ownsRow base T K v n xs:=by
 refine h.kept (grown_below hb none) ?_
 cases hv : v.ownBlock with
 | none => exact .inl rfl
 | some k => exact .inr (by simp)
theorem own_apart {K b : Nat} {xs l : List Value} {t : TypeId} (h : w.ownsRow base T K v n xs) (hr : Row w b t l) (ht : t ≠ T) : some b ≠ v.ownBlock:=by
 obtain ⟨_,⟨rfl,_⟩ | ⟨g,cap,cur,rfl,_,hh,_⟩⟩:=h
 · intro e;cases e
 · intro e
   injection e with e
   subst e
   unfold Row at hr
   rw [hr] at hh;injection hh with hh;injection hh with _ ht';exact ht ht'
theorem own_apart2 {K K' n' base' : Nat} {v' : Value} {xs ys : List Value} {t : TypeId} (h : w.ownsRow base T K v n xs) (h' : w.ownsRow base' t K' v' n' ys) (ht : t ≠ T) : v'.ownBlock = none ∨ v'.ownBlock ≠ v.ownBlock:=by
 obtain ⟨_,⟨rfl,_⟩ | ⟨g',cap',cur',rfl,_,hh',_⟩⟩:=h'
 · exact .inl rfl
 · right
   obtain ⟨_,⟨rfl,_⟩ | ⟨g,cap,cur,rfl,_,hh,_⟩⟩:=h
   · intro e;cases e
   · intro e
     injection e with e
     simp only at e
     subst e
     rw [hh'] at hh;injection hh with hh;injection hh with _ e';exact ht e'
theorem own_below {w0 : World} {K : Nat} {xs : List Value} (h : w.ownsRow base T K v n xs) (hg : w.grownBy w' v.ownBlock) (hb : Below base w0 w) (hB : base ≤ w.heap.size) : Below base w0 w' :=
 hb.grown hg hB (fun k e => (h.lt k e).1)
end
theorem append_own {α : Type} (κ : Kind α) {P : Program} {w : World} {ops : Array Oper} {rest : List Oper} {o : Oper} {a : Act} {Q : Exit → Act → World → Prop} (T TS : TypeId) {z : Value} {bytes : Nat}
 (hu : P.underlying TS = some (.slice T)) (hinfo : (P.info? T).map (fun i => (i.zero,i.size,i.bytes)) = some (some z,κ.K,bytes)) (hz : z.cells.size = κ.K) (hgd : o.guard = none) (s x : Operand)
 (ho : o.op = .call { callee:=.builtin .append,args:=#[s,x],argTypes:=#[TS,TS] })
 (base : Nat) (v : Value) (n : Nat) (ts : List α) (hs : a.eval s = v) (hown : w.ownsRow base T κ.K v n (row κ ts))
 (A : Option Addr) (c : Nat) (ys : List α) (hx : a.eval x = .slice A ys.length c) (hA : A = none → c = 0 ∧ ys = []) (hb : Ts κ w A ys)
 (hle : n + ys.length ≤ maxLen) (hby : (n + ys.length) * bytes ≤ 140737488355328) (hbase : base ≤ w.heap.size)
 (h : ∀ v' w',w'.ownsRow base T κ.K v' (n + ys.length) (row κ (ts ++ ys)) → w.grownBy w' v.ownBlock → wpList P ops Q rest (a.put o.dst v') w') : wpList P ops Q (o :: rest) a w:=by
 obtain ⟨i,hi,hz0,hz1,hz2⟩:=info_parts hinfo
 cases A with
 | none =>
   obtain ⟨rfl,rfl⟩:=hA rfl
   exact wpList_append_own_none hgd s x TS ho base T i κ.K hu hi v n (row κ ts) hs hown hx (h v w (by simpa using hown) (grown_below (Below.refl _ w) _))
 | some ad =>
   refine wpList_append_own w hgd s x TS ho base T i _ κ.K bytes hu hi hz0 hz1 hz2 hz κ.pos v n (row κ ts) hs hown ad ys.length c (row κ ys) hx (row_len ys) ?_ (row_one ys) hle hby hbase ?_
   · intro j u hj
     by_cases h0 : 0 < ys.length
     · obtain ⟨b,o',e,_,hc⟩:=hb h0
       cases e
       have:=hc j u hj
       cases j with
       | zero => exact this
       | succ j => exact this
     · have : ys = []:=by cases ys with
        | nil => rfl
        | cons y ys => simp at h0
       subst this
       simp [row] at hj
   · intro v' w' h1 h2 _
     exact h v' w' (by rw [row_append];exact h1) h2
end Rw
end

section
open Go.RowKit
namespace Rc
theorem add_off (g o j : Nat) : (⟨g,o,none⟩ : Addr).add j = ⟨g,o + j,none⟩:=by unfold Addr.add;split <;> simp_all
def Own (w : World) (base : Nat) (e : TypeId) (size : Nat) (v : Value) (n : Nat) (xs : List Value) : Prop :=
 xs.length = n * size ∧ ∃ g off cap cur,v = .slice (some ⟨g,off,none⟩) n cap ∧ base ≤ g ∧ w.heap[g]? = some (.cells cur e (0,0)) ∧ n ≤ cap ∧ cap ≤ maxLen ∧ off + cap * size ≤ cur.size ∧ ∀ j u,xs[j]? = some u → cur[off + j]? = some u
section
variable {w w' : World} {base n size : Nat} {e : TypeId} {v : Value} {xs : List Value}
theorem Own.of_row (h : w.ownsRow base e size v n xs) (hn : 0 < n) : Own w base e size v n xs:=by
 obtain ⟨hl,⟨_,h0⟩ | ⟨g,cap,cur,hv,hb,hg,h1,h2,h3,h4⟩⟩:=h
 · omega
 · refine ⟨hl,g,0,cap,cur,hv,hb,hg,h1,h2,by omega,fun j u hu => ?_⟩
   rw [← h4,List.getElem?_take] at hu
   split at hu
   · rw [Nat.zero_add];simpa using hu
   · cases hu
theorem Own.at_ (h : Own w base e size v n xs) : ∃ g off cap,v = .slice (some ⟨g,off,none⟩) n cap ∧ base ≤ g ∧ g < w.heap.size ∧ n ≤ cap ∧ cap ≤ maxLen ∧ ∀ j u,xs[j]? = some u → w.cell? ⟨g,off + j,none⟩ = some u:=by
 obtain ⟨hl,g,off,cap,cur,hv,hb,hg,h1,h2,h3,h4⟩:=h
 refine ⟨g,off,cap,hv,hb,(Array.getElem?_eq_some_iff.1 hg).1,h1,h2,fun j u hu => ?_⟩
 rw [cell_of_row w g (off + j) cur e (0,0) hg]
 exact h4 j u hu
theorem Own.kept {row : Option Nat} (h : Own w base e size v n xs) (hg : w.grownBy w' row) (hne : v.ownBlock ≠ row) : Own w' base e size v n xs:=by
 obtain ⟨hl,g,off,cap,cur,rfl,hb,hgg,h1⟩:=h
 refine ⟨hl,g,off,cap,cur,rfl,hb,?_,h1⟩
 rw [hg.block g (Array.getElem?_eq_some_iff.1 hgg).1 (by simpa [Value.ownBlock] using hne)]
 exact hgg
theorem Own.below (h : Own w base e size v n xs) (hb : Below w.heap.size w w') : Own w' base e size v n xs:=by
 obtain ⟨hl,g,off,cap,cur,rfl,hbg,hgg,h1⟩:=h
 refine ⟨hl,g,off,cap,cur,rfl,hbg,?_,h1⟩
 rw [hb.block g (Array.getElem?_eq_some_iff.1 hgg).1]
 exact hgg
theorem Own.alloc (h : Own w base e size v n xs) (o : Obj) : Own (w.alloc o) base e size v n xs:=h.below ((Below.refl _ _).alloc (Nat.le_refl _) _)
theorem Own.lt (h : Own w base e size v n xs) : ∀ k,v.ownBlock = some k → base ≤ k ∧ k < w.heap.size:=by
 obtain ⟨g,off,cap,rfl,hb,hlt,_⟩:=h.at_
 intro k hk
 simp only [Value.ownBlock,Option.some.injEq] at hk
 subst hk
 exact ⟨hb,hlt⟩
theorem Own.apart {K m base' : Nat} {T : TypeId} {v' : Value} {ys : List Value} (h : Own w base e size v n xs) (h' : w.ownsRow base' T K v' m ys) (ht : T ≠ e) : v.ownBlock ≠ v'.ownBlock:=by
 obtain ⟨hl,g,off,cap,cur,rfl,hb,hgg,h1⟩:=h
 obtain ⟨_,⟨rfl,_⟩ | ⟨g',cap',cur',rfl,_,hh',_⟩⟩:=h'
 · simp [Value.ownBlock]
 · intro e
   simp only [Value.ownBlock,Option.some.injEq] at e
   subst e
   rw [hh'] at hgg;injection hgg with hgg;injection hgg with _ e';exact ht e'
theorem Own.apart_row {b : Nat} {T : TypeId} {l : List Value} (h : Own w base e size v n xs) (hr : Row w b T l) (ht : T ≠ e) : v.ownBlock ≠ some b:=by
 obtain ⟨hl,g,off,cap,cur,rfl,hb,hgg,h1⟩:=h
 intro e
 simp only [Value.ownBlock,Option.some.injEq] at e
 subst e
 unfold Row at hr
 rw [hr] at hgg;injection hgg with hgg;injection hgg with _ e';exact ht e'
theorem Own.cut {g off cap : Nat} {c ys : List Value} (h : Own w base e size (.slice (some ⟨g,off,none⟩) n cap) n xs) (hx : xs = c ++ ys) (hc : c.length = size) (hn : 0 < n) (hs : 0 < size) :
 Own w base e size (.slice (if cap = 1 then some ⟨g,off,none⟩ else some ⟨g,off + size,none⟩) (n - 1) (cap - 1)) (n - 1) ys:=by
 obtain ⟨hl,g',off',cap',cur,hv,hb,hgg,h1,h2,h3,h4⟩:=h
 injection hv with e1 e2 e3
 injection e1 with e1
 injection e1 with e1 e4
 subst e1;subst e4;subst e3
 subst hx
 have hm : n * size = (n - 1) * size + size:=by
  rw [← Nat.succ_mul];congr 1;omega
 have hm2 : cap * size = (cap - 1) * size + size:=by
  rw [← Nat.succ_mul];congr 1;omega
 have hyl : ys.length = (n - 1) * size:=by rw [List.length_append] at hl;omega
 by_cases hcap : cap = 1
 · rw [if_pos hcap]
   refine ⟨hyl,g,off,cap - 1,cur,rfl,hb,hgg,by omega,by omega,by omega,fun j u hu => ?_⟩
   have h0:=(List.getElem?_eq_some_iff.1 hu).1
   have : n - 1 = 0:=by omega
   rw [hyl,this,Nat.zero_mul] at h0
   omega
 · rw [if_neg hcap]
   refine ⟨hyl,g,off + size,cap - 1,cur,rfl,hb,hgg,by omega,by omega,by omega,fun j u hu => ?_⟩
   have:=h4 (size + j) u (by rw [← hc,List.getElem?_append_right (by omega)];simpa using hu)
   rw [Nat.add_assoc];exact this
end
section
variable {P : Program} (w : World)
theorem run_append (base : Nat) (t ty e : TypeId) (i : TypeInfo) (z : Value) (size bytes : Nat) (ht : P.underlying t = some (.slice e)) (hi : P.info? e = some i) (hz : i.zero = some z)
 (hsize : i.size = size) (hby : i.bytes = bytes) (hzs : z.cells.size = size) (hsz : 0 < size)
 (v : Value) (n : Nat) (xs : List Value) (hown : Own w base e size v n xs)
 (a : Addr) (m c : Nat) (news : List Value) (hl : news.length = m * size) (hnews : ∀ j u,news[j]? = some u → w.cell? (a.add j) = some u) (h1 : ∀ u ∈ news,u.oneCell' = true)
 (h63 : n + m ≤ maxLen) (hbytes : (n + m) * bytes ≤ 140737488355328) (hbase : base ≤ w.heap.size) :
 ∃ v' w',(Builtin.append_ #[t,t] ty #[v,.slice (some a) m c]).run P w = .ok v' w' ∧ Own w' base e size v' (n + m) (xs ++ news) ∧ w.grownBy w' v.ownBlock ∧
   (v'.ownBlock = v.ownBlock ∨ v'.ownBlock = some w.heap.size):=by
 subst hsize
 subst hby
 have hsmall : n + m ≤ 9223372036854775807:=by simp only [maxLen] at h63;omega
 have hlen : (xs ++ news).length = (n + m) * i.size:=by rw [List.length_append,hown.1,hl,Nat.add_mul]
 obtain ⟨hxl,g,off,cap,cur,rfl,hbg,hg,hnc,hcm,hcs,hcur⟩:=hown
 by_cases hroom : n + m ≤ cap
 · have hmul : (n + m) * i.size ≤ cap * i.size:=Nat.mul_le_mul_right _ hroom
   have hadd : (n + m) * i.size = n * i.size + m * i.size:=Nat.add_mul _ _ _
   have hfit : off + n * i.size + 0 + news.length ≤ cur.size:=by omega
   have hf:=run_firstCells_some (P:=P) w i.size m a m c news hl hnews
   have hst:=run_storeCells_at P g (off + n * i.size) e news 0 cur w hg hfit h1
   simp only [Nat.add_zero] at hst
   refine ⟨.slice (some ⟨g,off,none⟩) (n + m) cap,w.setRow g (cur.toList.take (off + n * i.size) ++ news ++ cur.toList.drop (off + n * i.size + news.length)).toArray,?_,⟨hlen,g,off,cap,_,rfl,hbg,setRow_heap w g cur _ e _ hg,hroom,hcm,?_,?_⟩,⟨rfl,rfl,rfl,by simp,fun k _ hk => setRow_other w g k _ (fun e => hk (by simp [Value.ownBlock,e]))⟩,.inl rfl⟩
   · simp [Builtin.append_,run_underlying ht,sizeOf,typeInfo,hi,Builtin.lenOf,hroom,hf,add_off,hst]
   · simp only [List.size_toArray,List.length_append,List.length_take,List.length_drop,Array.length_toList]
     omega
   · intro j u hu
     have hj:=(List.getElem?_eq_some_iff.1 hu).1
     rw [hlen,hadd] at hj
     have hlt : (cur.toList.take (off + n * i.size)).length = off + n * i.size:=by
      rw [List.length_take,Nat.min_eq_left]
      rw [Array.length_toList];omega
     rw [List.getElem?_toArray,List.append_assoc]
     by_cases hjn : j < n * i.size
     · rw [List.getElem?_append_left (by omega)] at hu
       rw [List.getElem?_append_left (by rw [hlt];omega),List.getElem?_take_of_lt (by omega),Array.getElem?_toList]
       exact hcur j u hu
     · rw [List.getElem?_append_right (by omega)] at hu
       rw [List.getElem?_append_right (by rw [hlt];omega),hlt,List.getElem?_append_left (by omega),show off + j - (off + n * i.size) = j - xs.length by omega]
       exact hu
 · have holds : ∀ j u,xs[j]? = some u → w.cell? ((⟨g,off,none⟩ : Addr).add j) = some u:=fun j u hu => by
    rw [add_off,cell_of_row w g (off + j) cur e (0,0) hg]
    exact hcur j u hu
   have hr:=run_append_grow (P:=P) w t ty e i z ht hi hz ⟨g,off,none⟩ n cap xs hxl holds a m c news hl hnews (by omega) (by omega) (growslice_fits (by omega) hbytes)
   have hge:=grownCap_ge w (n + m) cap e
   have hcm2 : grownCap w (n + m) cap e ≤ maxLen:=grownCap_le_maxLen w (n + m) cap e h63
   refine ⟨_,_,hr,⟨hlen,_,0,_,_,rfl,hbase,heap_alloc_new w.drew _,hge,hcm2,?_,?_⟩,⟨rfl,rfl,rfl,by simp,fun k hk _ => Below.heap_alloc w.drew _ k hk⟩,.inr rfl⟩
   · simp only [Array.size_append,List.size_toArray,size_zeroCells,hzs,hxl,hl,← Nat.add_mul,Nat.zero_add]
     have : n + m + (grownCap w (n + m) cap e - (n + m)) = grownCap w (n + m) cap e:=by omega
     rw [this];exact Nat.le_refl _
   · intro j u hu
     rw [Nat.zero_add,← Array.getElem?_toList]
     simp only [Array.toList_append]
     rw [List.getElem?_append_left (by simpa using (List.getElem?_eq_some_iff.1 hu).1)]
     exact hu
theorem append_own {α : Type} (κ : Kind α) {w : World} {ops : Array Oper} {rest : List Oper} {o : Oper} {a : Act} {Q : Exit → Act → World → Prop} (T TS : TypeId) {z : Value} {bytes : Nat}
 (hu : P.underlying TS = some (.slice T)) (hinfo : (P.info? T).map (fun i => (i.zero,i.size,i.bytes)) = some (some z,κ.K,bytes)) (hz : z.cells.size = κ.K) (hgd : o.guard = none) (s x : Operand)
 (ho : o.op = .call { callee:=.builtin .append,args:=#[s,x],argTypes:=#[TS,TS] })
 (base : Nat) (v : Value) (n : Nat) (ts : List α) (hs : a.eval s = v) (hown : Own w base T κ.K v n (Rw.row κ ts))
 (ad : Addr) (c : Nat) (ys : List α) (hx : a.eval x = .slice (some ad) ys.length c) (hb : Rw.Ts κ w (some ad) ys) (hy : 0 < ys.length)
 (hle : n + ys.length ≤ maxLen) (hby : (n + ys.length) * bytes ≤ 140737488355328) (hbase : base ≤ w.heap.size)
 (h : ∀ v' w',Own w' base T κ.K v' (n + ys.length) (Rw.row κ (ts ++ ys)) → w.grownBy w' v.ownBlock → (v'.ownBlock = v.ownBlock ∨ v'.ownBlock = some w.heap.size) → wpList P ops Q rest (a.put o.dst v') w') : wpList P ops Q (o :: rest) a w:=by
 obtain ⟨i,hi,hz0,hz1,hz2⟩:=info_parts hinfo
 obtain ⟨b,o',e,_,hc⟩:=hb hy
 cases e
 refine wpList_plain hgd fun K hK => ?_
 obtain ⟨v',w',hr,h2,h3,h4⟩:=run_append (P:=P) w base TS o.type T i z κ.K bytes hu hi hz0 hz1 hz2 hz κ.pos v n (Rw.row κ ts) hown ⟨b,o',none⟩ ys.length c (Rw.row κ ys) (Rw.row_len ys) (fun j u hj => by rw [add_off];exact hc j u hj) (Rw.row_one ys) hle hby hbase
 unfold Oper.wp execOp
 simp only [ho,resolve,invoke,builtin,Sem.run_bind,Sem.run_pure,Result.andThen_ok,List.map_toArray,List.map_cons,List.map_nil,hs,hx,hr]
 exact hK _ _ (h v' w' (by rw [Rw.row_append];exact h2) h3 h4)
end
end Rc
end

section
structure Nd where
 k : Nat
 a : Nat
 b : Int
 d : Int
 ins : List Int
def Nd.May (n : Nd) : Prop:=(0 ≤ n.d ∧ n.d ≤ 3) ∧ n.ins.length ≤ 2 ∧ ∀ x ∈ n.ins,0 ≤ x ∧ x ≤ 31
def GMay (g : List Nd) : Prop:=(1 ≤ g.length ∧ g.length ≤ 32) ∧ ∀ n ∈ g,n.May
def be8 (x : Nat) : List Nat:=[x / 72057594037927936 % 256,x / 281474976710656 % 256,x / 1099511627776 % 256,x / 4294967296 % 256,x / 16777216 % 256,x / 65536 % 256,x / 256 % 256,x % 256]
def uns (b : Int) : Nat:=(b % 18446744073709551616).toNat
def Nd.put (n : Nd) : List Nat:=n.k :: n.a :: (be8 (uns n.b) ++ (n.d.toNat :: n.ins.length :: n.ins.map Int.toNat))
def putNs (g : List Nd) : List Nat:=(g.map Nd.put).flatten
def putG (g : List Nd) : List Nat:=g.length :: putNs g
section
variable {n m : Nd} {g h : List Nd} {b r s : List Nat} {x : Nat} {v : Int}
end
end

section
structure Gn where
 nd : Nd
 A : Option Addr
 c : Nat
def kindI : Kind Int:=⟨fun x => [.int .i64 x],1,fun _ => rfl,fun t u hu => by simp only [List.mem_singleton] at hu;subst hu;rfl,by decide⟩
def kindG : Kind Gn:=⟨fun x => [.int .u8 (x.nd.k : Nat),.int .u8 (x.nd.a : Nat),.int .i64 x.nd.b,.int .i64 x.nd.d,.slice x.A x.nd.ins.length x.c],5,fun _ => rfl,fun t u hu => by
 simp only [List.mem_cons,List.not_mem_nil,or_false] at hu
 rcases hu with rfl | rfl | rfl | rfl | rfl <;> rfl,by decide⟩
structure Gn.Ok (x : Gn) : Prop where
 k : x.nd.k < 256
 a : x.nd.a < 256
 b : -9223372036854775808 ≤ x.nd.b ∧ x.nd.b ≤ 9223372036854775807
 d : -9223372036854775808 ≤ x.nd.d ∧ x.nd.d ≤ 9223372036854775807
 ins : ∀ z ∈ x.nd.ins,-9223372036854775808 ≤ z ∧ z ≤ 9223372036854775807
 c : x.nd.ins.length ≤ x.c ∧ x.c ≤ maxLen
 none : x.A = Option.none → x.c = 0
def nds (g : List Gn) : List Nd:=g.map Gn.nd
def Gr (w : World) (A : Option Addr) (g : List Gn) : Prop:=Rw.Ts kindG w A g ∧ ∀ x ∈ g,x.Ok ∧ Rw.Ts kindI w x.A x.nd.ins
section
variable {w w' : World} {A : Option Addr} {g : List Gn}
theorem Gr.below (h : Gr w A g) (hb : Below w.heap.size w w') : Gr w' A g:=⟨h.1.below hb,fun x hx => ⟨(h.2 x hx).1,(h.2 x hx).2.below hb⟩⟩
theorem Gr.nil : Gr w A []:=⟨Rw.Ts.nil,fun x hx => by cases hx⟩
theorem Gr.ok (h : Gr w A g) {i : Nat} {x : Gn} (hi : g[i]? = some x) : x.Ok:=(h.2 x (List.mem_of_getElem? hi)).1
theorem Gr.take (h : Gr w A g) (k : Nat) : Gr w A (g.take k):=⟨h.1.take k,fun x hx => h.2 x (List.mem_of_mem_take hx)⟩
theorem Gr.at_ (h : Gr w A g) {i : Nat} {x : Gn} (hi : g[i]? = some x) : ∃ b o,A = some ⟨b,o,none⟩ ∧ b < w.heap.size ∧ ∀ w',Below w.heap.size w w' →
 w'.cell? ⟨b,o + i * 5,none⟩ = some (.int .u8 (x.nd.k : Nat)) ∧ w'.cell? ⟨b,o + i * 5 + 1,none⟩ = some (.int .u8 (x.nd.a : Nat)) ∧ w'.cell? ⟨b,o + i * 5 + 2,none⟩ = some (.int .i64 x.nd.b) ∧ w'.cell? ⟨b,o + i * 5 + 3,none⟩ = some (.int .i64 x.nd.d) ∧ w'.cell? ⟨b,o + i * 5 + 4,none⟩ = some (.slice x.A x.nd.ins.length x.c):=by
 obtain ⟨b,o,e,hlt,hc⟩:=h.1.at_ hi
 exact ⟨b,o,e,hlt,fun w' hb => ⟨hc w' hb 0 _ rfl,hc w' hb 1 _ rfl,hc w' hb 2 _ rfl,hc w' hb 3 _ rfl,hc w' hb 4 _ rfl⟩⟩
theorem Gr.ins (h : Gr w A g) {i : Nat} {x : Gn} (hi : g[i]? = some x) : Rw.Ts kindI w x.A x.nd.ins:=(h.2 x (List.mem_of_getElem? hi)).2
end
theorem ints_at {w : World} {A : Option Addr} {l : List Int} (h : Rw.Ts kindI w A l) {i : Nat} {z : Int} (hi : l[i]? = some z) : ∃ b o,A = some ⟨b,o,none⟩ ∧ b < w.heap.size ∧ ∀ w',Below w.heap.size w w' → w'.cell? ⟨b,o + i,none⟩ = some (.int .i64 z):=by
 obtain ⟨b,o,e,hlt,hc⟩:=h.at_ hi
 refine ⟨b,o,e,hlt,fun w' hb => ?_⟩
 have:=hc w' hb 0 _ rfl
 simp only [kindI,Nat.mul_one,Nat.add_zero] at this
 exact this
theorem run_load_gn (w : World) (b o : Nat) (x : Gn) (h : ∀ (j : Nat) (v : Value),(kindG.cells x)[j]? = some v → w.cell? ⟨b,o + j,none⟩ = some v) :
 (Instr.loadAt 58 (.pointer (some ⟨b,o,none⟩))).run Tryz.prog w = .ok (.agg #[.int .u8 (x.nd.k : Nat),.int .u8 (x.nd.a : Nat),.int .i64 x.nd.b,.int .i64 x.nd.d,.slice x.A x.nd.ins.length x.c]) w :=
 run_loadAt_part b o 58 _ (kindG.cells x) (fun j v hj => by rw [add_at];exact h j v hj) Tryz.underlying58 rfl (by kernel_rfl)
theorem Gr.load {w : World} {A : Option Addr} {g : List Gn} (h : Gr w A g) {i : Nat} {x : Gn} (hi : g[i]? = some x) : ∃ b o,A = some ⟨b,o,none⟩ ∧ b < w.heap.size ∧
 ∀ w',Below w.heap.size w w' → (Instr.loadAt 58 (.pointer (some ⟨b,o + i * 5,none⟩))).run Tryz.prog w' = .ok (.agg #[.int .u8 (x.nd.k : Nat),.int .u8 (x.nd.a : Nat),.int .i64 x.nd.b,.int .i64 x.nd.d,.slice x.A x.nd.ins.length x.c]) w':=by
 obtain ⟨b,o,e,hlt,hc⟩:=h.1.at_ hi
 exact ⟨b,o,e,hlt,fun w' hb => run_load_gn _ _ _ _ fun j v hj => hc w' hb j v hj⟩
theorem infoNode : (Tryz.prog.info? 58).map (fun i => (i.zero,i.size,i.bytes)) = some (some (.agg #[.int .u8 0,.int .u8 0,.int .i64 0,.int .i64 0,.slice none 0 0]),5,48):=by kernel_rfl
theorem infoInt : (Tryz.prog.info? 3).map (fun i => (i.zero,i.size,i.bytes)) = some (some (.int .i64 0),1,8):=by kernel_rfl
end

section
theorem i64_wf {n : Int} (h : (Lit.int .i64 n).wf = true) : -9223372036854775808 ≤ n ∧ n ≤ 9223372036854775807:=by
 simpa [Lit.wf,IntKind.min,IntKind.max,IntKind.signed,IntKind.bits] using h
theorem plain_addr {w : World} {a : Addr} {v : Value} (h : w.cell? a = some v) : ∃ b off,a = ⟨b,off,none⟩:=by
 obtain ⟨b,off,spot⟩:=a
 cases spot with
 | none => exact ⟨b,off,rfl⟩
 | some q =>
   exfalso
   unfold World.cell? at h
   cases hh : w.heap[b]? with
   | none => simp [hh] at h
   | some o => cases o <;> simp [hh] at h
theorem row_ints : ∀ (l : List Int),Rw.row kindI l = l.map (Value.int .i64)
 | [] => rfl
 | x :: l => by rw [Rw.row_cons,row_ints l];rfl
theorem row_read {α : Type} {κ : Kind α} {f : Nat → Option Value} : ∀ {ts : List α},(∀ (i : Nat) (t : α),ts[i]? = some t → ∀ (j : Nat) (u : Value),(κ.cells t)[j]? = some u → f (i * κ.K + j) = some u) → ∀ (j : Nat) (u : Value),(Rw.row κ ts)[j]? = some u → f j = some u:=by
 intro ts
 induction ts generalizing f with
 | nil => intro _ j u h;simp [Rw.row] at h
 | cons t ts ih =>
   intro h j u hj
   rw [Rw.row_cons] at hj
   by_cases hlt : j < κ.K
   · rw [List.getElem?_append_left (by rw [κ.len];exact hlt)] at hj
     have:=h 0 t rfl j u hj
     rwa [Nat.zero_mul,Nat.zero_add] at this
   · rw [List.getElem?_append_right (by rw [κ.len];omega),κ.len] at hj
     have:=ih (f:=fun j => f (κ.K + j)) (fun i t' ht j' u' hu => by
      have:=h (i + 1) t' (by simpa using ht) j' u' hu
      rwa [Nat.succ_mul,show i * κ.K + κ.K + j' = κ.K + (i * κ.K + j') by omega] at this) (j - κ.K) u hj
     rwa [show κ.K + (j - κ.K) = j by omega] at this
section
variable {H : Type} {enc : TypeId × Value → H}
section
variable {P : Program} {w : World} {base : Nat} {spare : Nat → Bool} {held : Bool}
theorem trod_struct5 {t : TypeId} {f0 f1 f2 f3 f4 : Field} {fuel : Nat} {cs : List Value} {x : DataW H × List MemPlace} (ht : P.underlying t = some (.struct #[f0,f1,f2,f3,f4])) (h : DataW.trod enc P w base spare held fuel t cs = some x) :
 ∃ y0 y1 y2 y3 y4 n,x.1 = .agg [y0.1,y1.1,y2.1,y3.1,y4.1] ∧ cs.length = P.cellsOf t ∧ DataW.trod enc P w base spare held n f0.type ((cs.drop f0.offset).take (P.cellsOf f0.type)) = some y0 ∧
   DataW.trod enc P w base spare held n f1.type ((cs.drop f1.offset).take (P.cellsOf f1.type)) = some y1 ∧ DataW.trod enc P w base spare held n f2.type ((cs.drop f2.offset).take (P.cellsOf f2.type)) = some y2 ∧
   DataW.trod enc P w base spare held n f3.type ((cs.drop f3.offset).take (P.cellsOf f3.type)) = some y3 ∧ DataW.trod enc P w base spare held n f4.type ((cs.drop f4.offset).take (P.cellsOf f4.type)) = some y4:=by
 obtain ⟨xs,n,_,rfl,hl,hlen,hf⟩:=DataW.trod_struct ht h
 match xs,hlen with
 | [y0,y1,y2,y3,y4],_ => exact ⟨y0,y1,y2,y3,y4,n,by simp,hl,by simpa using hf 0 f0 rfl,by simpa using hf 1 f1 rfl,by simpa using hf 2 f2 rfl,by simpa using hf 3 f3 rfl,by simpa using hf 4 f4 rfl⟩
end
theorem cell_add {b off i j : Nat} : ((⟨b,off,none⟩ : Addr).add i).add j = ⟨b,off + i + j,none⟩:=by rw [add_at,add_at]
theorem cells_int : Tryz.prog.cellsOf 3 = 1:=by kernel_rfl
theorem trod_ints {W : World} {n : Nat} {cs : List Value} {y : DataW H × List MemPlace} (h4 : DataW.trod enc Tryz.prog W 0 (fun _ => true) true n 56 cs = some y) :
 ∃ (KA : Option Addr) (ks : List Int) (kc : Nat),cs = [.slice KA ks.length kc] ∧ Rw.Ts kindI W KA ks ∧ (∀ z ∈ ks,-9223372036854775808 ≤ z ∧ z ≤ 9223372036854775807) ∧ ks.length ≤ kc ∧ kc ≤ maxLen ∧ (KA = none → kc = 0):=by
 rcases open_ints Tryz.underlying56 Tryz.underlying3 cells_int h4 with ⟨hcs,_⟩ | ⟨ka,klen,kcap,zs,hcs,_,hkl,hkm,hkz,_,hkcell,hkw⟩
 · exact ⟨none,[],0,hcs,Rw.Ts.nil,by simp,by simp,by simp,fun _ => rfl⟩
 · simp only [if_true] at hkz
   have hlen : (zs.take klen).length = klen:=by simp;omega
   refine ⟨some ka,zs.take klen,kcap,by rw [hlen];exact hcs,fun h0 => ?_,fun z hz => i64_wf (hkw z (List.mem_of_mem_take hz)),by omega,hkm,by simp⟩
   have hc1:=hkcell 0 (by omega)
   have hlt:=cell_lt hc1
   rw [add_block] at hlt
   obtain ⟨b,off,rfl⟩ : ∃ b off,ka = ⟨b,off,none⟩:=by
    obtain ⟨b,off,e⟩:=plain_addr hc1
    obtain ⟨b',off',spot⟩:=ka
    simp [Addr.add] at e
    exact ⟨b',off',by rw [e.2.2]⟩
   refine ⟨b,off,rfl,hlt,fun j u hj => ?_⟩
   rw [row_ints,List.getElem?_map,Option.map_eq_some_iff] at hj
   obtain ⟨z,hj,rfl⟩:=hj
   have hj':=(List.getElem?_eq_some_iff.1 hj).1
   have h2:=hkcell j (by simp at hj';omega)
   rw [add_at] at h2
   rw [h2]
   rw [List.getElem?_take] at hj
   split at hj
   · simp [List.getD_eq_getElem?_getD,hj]
   · cases hj
set_option maxRecDepth 100000 in
set_option maxHeartbeats 4000000 in
theorem open_graph {W : World} {base : Nat} {v : Value} {d : DataW H} {p : List MemPlace} (hok : Value.okWide Tryz.prog W .any base 23 v)
 (h : DataW.Trod enc Tryz.prog W 0 (fun _ => true) true 23 v d p) :
 ∃ (A : Option Addr) (l : List Gn) (c : Nat),v = .slice A l.length c ∧ Gr W A l ∧ l.length ≤ c ∧ c ≤ maxLen ∧ (A = none → c = 0):=by
 obtain ⟨A0,len,cap,rfl⟩:=okWide_slice Tryz.underlying23 hok
 obtain ⟨fuel,hf⟩:=h
 rcases Go.Deep.open_slice Tryz.underlying23 hf with ⟨hcs,_⟩ | ⟨a,len',cap',m,n,D,Pl,hcs,_,hl,hm,hmm,hx,hi⟩
 · simp [Value.cells] at hcs
   obtain ⟨rfl,rfl,rfl⟩:=hcs
   exact ⟨none,[],0,rfl,Gr.nil,by simp,by simp,fun _ => rfl⟩
 · simp [Value.cells] at hcs
   obtain ⟨rfl,rfl,rfl⟩:=hcs
   simp only [if_true] at hmm
   subst hmm
   rw [show Tryz.prog.cellsOf 58 = 5 by kernel_rfl] at hi
   have key : ∀ i,i < len → ∃ x : Gn,(x.Ok ∧ Rw.Ts kindI W x.A x.nd.ins) ∧ W.cell? ((a.add (i * 5)).add 0) = some (.int .u8 (x.nd.k : Nat)) ∧ W.cell? ((a.add (i * 5)).add 1) = some (.int .u8 (x.nd.a : Nat)) ∧ W.cell? ((a.add (i * 5)).add 2) = some (.int .i64 x.nd.b) ∧ W.cell? ((a.add (i * 5)).add 3) = some (.int .i64 x.nd.d) ∧ W.cell? ((a.add (i * 5)).add 4) = some (.slice x.A x.nd.ins.length x.c):=by
    intro i hlt
    obtain ⟨cs',hc,ht⟩:=hi i (by omega)
    obtain ⟨_,hcl,hat⟩:=World.cells?_some hc
    obtain ⟨y0,y1,y2,y3,y4,n',hy,_,h0,h1,h2,h3,h4⟩:=trod_struct5 Tryz.underlying58 ht
    obtain ⟨u,e0,ey0,w0⟩:=DataW.trod_int Tryz.underlying5 h0
    obtain ⟨u',e1,ey1,w1⟩:=DataW.trod_int Tryz.underlying5 h1
    obtain ⟨z',e2,ey2,w2⟩:=DataW.trod_int Tryz.underlying2 h2
    obtain ⟨z,e3,ey3,w3⟩:=DataW.trod_int Tryz.underlying3 h3
    obtain ⟨KA,ks,kc,e4,hK,hkz,hk1,hk2,hkn⟩:=trod_ints h4
    obtain ⟨k,rfl⟩:=Int.eq_ofNat_of_zero_le (u8_wf w0).1
    have hu:=(u8_wf w0).2
    obtain ⟨k',rfl⟩:=Int.eq_ofNat_of_zero_le (u8_wf w1).1
    have hu':=(u8_wf w1).2
    match cs',hcl,e0,e1,e2,e3,e4,hat with
    | [c0,c1,c2,c3,c4],_,e0,e1,e2,e3,e4,hat =>
      rw [show Tryz.prog.cellsOf 5 = 1 by kernel_rfl] at e0 e1
      rw [show Tryz.prog.cellsOf 2 = 1 by kernel_rfl] at e2
      rw [show Tryz.prog.cellsOf 3 = 1 by kernel_rfl] at e3
      rw [show Tryz.prog.cellsOf 56 = 1 by kernel_rfl] at e4
      simp at e0 e1 e2 e3 e4
      subst e0;subst e1;subst e2;subst e3;subst e4
      exact ⟨⟨⟨k,k',z',z,ks⟩,KA,kc⟩,⟨⟨by show k < 256;omega,by show k' < 256;omega,i64_wf w2,i64_wf w3,hkz,⟨hk1,hk2⟩,hkn⟩,hK⟩,hat 0 (by omega),hat 1 (by omega),hat 2 (by omega),hat 3 (by omega),hat 4 (by omega)⟩
   let f : Nat → Gn:=fun i => if h : i < len then Classical.choose (key i h) else ⟨⟨0,0,0,0,[]⟩,none,0⟩
   have hf' : ∀ i (h : i < len),f i = Classical.choose (key i h):=fun i h => by simp only [f];rw [dif_pos h]
   have hspec:=fun i (h : i < len) => (by rw [hf' i h];exact Classical.choose_spec (key i h) :
    (((f i).Ok ∧ Rw.Ts kindI W (f i).A (f i).nd.ins) ∧ W.cell? ((a.add (i * 5)).add 0) = some (.int .u8 ((f i).nd.k : Nat)) ∧ W.cell? ((a.add (i * 5)).add 1) = some (.int .u8 ((f i).nd.a : Nat)) ∧ W.cell? ((a.add (i * 5)).add 2) = some (.int .i64 (f i).nd.b) ∧ W.cell? ((a.add (i * 5)).add 3) = some (.int .i64 (f i).nd.d) ∧ W.cell? ((a.add (i * 5)).add 4) = some (.slice (f i).A (f i).nd.ins.length (f i).c)))
   refine ⟨some a,(List.range len).map f,m,by simp,⟨fun hn => ?_,fun t ht => ?_⟩,by simp;omega,by unfold maxLen at hm ⊢;omega,by simp⟩
   · have hlen : 0 < len:=by simpa using hn
     have h0:=(hspec 0 hlen).2.1
     have hlt:=cell_lt h0
     rw [add_block,add_block] at hlt
     obtain ⟨b,off,rfl⟩ : ∃ b off,a = ⟨b,off,none⟩:=by
      obtain ⟨b,off,e⟩:=plain_addr h0
      obtain ⟨b',off',spot⟩:=a
      simp [Addr.add] at e
      exact ⟨b',off',by rw [e.2.2]⟩
     refine ⟨b,off,rfl,hlt,fun j u hj => ?_⟩
     refine row_read (κ:=kindG) (f:=fun j => W.cell? ⟨b,off + j,none⟩) (fun i t ht j u hu => ?_) j u hj
     have hil : i < len:=by simpa using (List.getElem?_eq_some_iff.1 ht).1
     rw [List.getElem?_map,List.getElem?_range hil] at ht
     obtain rfl : f i = t:=by simpa using ht
     obtain ⟨_,h1,h2,h3,h4,h5⟩:=hspec i hil
     rw [cell_add] at h1 h2 h3 h4 h5
     show W.cell? ⟨b,off + (i * 5 + j),none⟩ = _
     rw [← Nat.add_assoc]
     match j,hu with
     | 0,hu => rw [h1];exact hu
     | 1,hu => rw [h2];exact hu
     | 2,hu => rw [h3];exact hu
     | 3,hu => rw [h4];exact hu
     | 4,hu => rw [h5];exact hu
     | j + 5,hu => simp [kindG] at hu
   · obtain ⟨i,hi2,rfl⟩:=List.mem_map.1 ht
     exact (hspec i (List.mem_range.1 hi2)).1
end
end

section
theorem retb {a b : Bool} (h : a = b) : Ending.returned (.bool a) = .returned (.bool b):=by rw [h]
def insB (l : List Nd) (T : Int) : Bool:=decide ((l.length : Int) ≤ T ∧ ∀ x ∈ l,(x.ins.length : Int) ≤ T)
theorem insB_no1 {l : List Gn} {T : Int} (h : T < (l.length : Int)) : false = insB (nds l) T:=by
 unfold insB nds;rw [decide_eq_false];rw [List.length_map];omega
theorem insB_no2 {l : List Gn} {T : Int} {i : Nat} {x : Gn} (hi : l[i]? = some x) (h : T < (x.nd.ins.length : Int)) : false = insB (nds l) T:=by
 unfold insB nds;rw [decide_eq_false]
 intro hh
 have:=hh.2 x.nd (List.mem_map.2 ⟨x,List.mem_of_getElem? hi,rfl⟩)
 omega
theorem insB_yes {l : List Gn} {T : Int} (h0 : ¬ T < (l.length : Int)) (h : ∀ (j : Nat) (x : Gn),j < l.length → l[j]? = some x → (x.nd.ins.length : Int) ≤ T) : true = insB (nds l) T:=by
 unfold insB nds;rw [decide_eq_true]
 refine ⟨by rw [List.length_map];omega,fun y hy => ?_⟩
 obtain ⟨x,hx,rfl⟩:=List.mem_map.1 hy
 obtain ⟨j,hj⟩:=List.getElem?_of_mem hx
 exact h j x (List.getElem?_eq_some_iff.1 hj).1 hj
set_option maxHeartbeats 1000000 in
theorem ins_any (A : Option Addr) (l : List Gn) (c : Nat) (T : Int) (w : World) (hG : Gr w A l) (hl : l.length ≤ maxLen) :
 Calls Tryz.prog 22 #[.slice A l.length c,.int .i64 T] w fun e w' => e = .returned (.bool (insB (nds l) T)) ∧ w = w':=by
 unfold maxLen at hl
 have HG:=Hd hG;clear hG
 by_cases h0 : T < (l.length : Int)
 · go_enter Tryz.func22,Tryz.ntmps22
   go_wp2_with fail
   go_ret
   exact ⟨retb (insB_no1 h0),rfl⟩
 · go_enter Tryz.func22,Tryz.ntmps22
   go_wp2_with fail
   go_loop [5] (fun i => ∃ k : Nat,k ≤ l.length ∧ i = .int .i64 k ∧ ∀ (j : Nat) (x : Gn),j < k → l[j]? = some x → (x.nd.ins.length : Int) ≤ T) (fun i => l.length - (intOf i).toNat)
   case atStart => exact ⟨0,by omega,rfl,fun j x h => absurd h (by omega)⟩
   case round =>
    obtain ⟨k,hk,rfl,hall⟩:=hrel
    have HA:=Hd hall;clear hall
    by_cases hlt : k < l.length
    · have hltz : (k : Int) < (l.length : Int):=by omega
      obtain ⟨x,hx⟩ : ∃ x,l[k]? = some x:=⟨_,List.getElem?_eq_getElem hlt⟩
      obtain ⟨b,o,rfl,hbl,hcl⟩:=HG.out.at_ hx
      obtain ⟨_,_,_,_,c4⟩:=hcl w (Below.refl _ _)
      have HX:=Hd hx;clear hx hcl
      by_cases h2 : T < (x.nd.ins.length : Int)
      · go_wp2_with fail
        go_ret
        exact ⟨retb (insB_no2 HX.out h2),rfl⟩
      · go_wp2_with fail
        go_round
        case rel =>
         refine ⟨k + 1,by omega,by simp,fun j y hj hy => ?_⟩
         by_cases e : j = k
         · subst e
           rw [HX.out] at hy;cases hy
           omega
         · exact HA.out j y (by omega) hy
        case measure => simp [intOf];omega
    · have hltz : ¬ (k : Int) < (l.length : Int):=by omega
      have hkl : k = l.length:=by omega
      have HK:=Hd hkl;clear hkl
      go_wp2_with fail
      go_ret
      exact ⟨retb (insB_yes (by omega) (by have:=HA.out;rw [HK.out] at this;exact this)),rfl⟩
structure OwnG (w : World) (base : Nat) (v : Value) (l : List Gn) : Prop where
 row : w.ownsRow base 58 kindG.K v l.length (Rw.row kindG l)
 ok : ∀ x ∈ l,x.Ok
 ins : ∀ x ∈ l,w.ownsRow base 3 kindI.K (.slice x.A x.nd.ins.length x.c) x.nd.ins.length (Rw.row kindI x.nd.ins)
section
variable {w w' : World} {base : Nat} {v : Value} {l : List Gn}
theorem OwnG.nil (w : World) (base : Nat) : OwnG w base (.slice none 0 0) []:=⟨World.ownsRow_nil _ _ _ _,fun x hx => absurd hx (by simp),fun x hx => absurd hx (by simp)⟩
theorem OwnG.alloc (h : OwnG w base v l) (o : Obj) : OwnG (w.alloc o) base v l:=⟨h.row.alloc o,h.ok,fun x hx => (h.ins x hx).alloc o⟩
theorem OwnG.below (h : OwnG w base v l) (hb : Below w.heap.size w w') : OwnG w' base v l:=⟨Rw.own_kept h.row hb,h.ok,fun x hx => Rw.own_kept (h.ins x hx) hb⟩
theorem ints_apart {base' n n' K K' : Nat} {u u' : Value} {xs ys : List Value} (h : w.ownsRow base 58 K u n xs) (h' : w.ownsRow base' 3 K' u' n' ys) : u'.ownBlock = none ∨ u'.ownBlock ≠ u.ownBlock:=Rw.own_apart2 h h' (by decide)
theorem OwnG.more (h : OwnG w base v l) {x : Gn} (hx : x.Ok) (hi : w.ownsRow base 3 kindI.K (.slice x.A x.nd.ins.length x.c) x.nd.ins.length (Rw.row kindI x.nd.ins)) {v' : Value} (hr : w'.ownsRow base 58 kindG.K v' (l.length + 1) (Rw.row kindG (l ++ [x]))) (hg : w.grownBy w' v.ownBlock) : OwnG w' base v' (l ++ [x]) where
 row:=by rw [List.length_append];exact hr
 ok:=fun y hy => by
  rcases List.mem_append.1 hy with hy | hy
  · exact h.ok y hy
  · simp only [List.mem_singleton] at hy;subst hy;exact hx
 ins:=fun y hy => by
  rcases List.mem_append.1 hy with hy | hy
  · exact (h.ins y hy).kept hg (ints_apart h.row (h.ins y hy))
  · simp only [List.mem_singleton] at hy;subst hy;exact hi.kept hg (ints_apart h.row hi)
theorem OwnG.gr (h : OwnG w base v l) : ∃ A c,v = .slice A l.length c ∧ Gr w A l ∧ l.length ≤ c ∧ c ≤ maxLen ∧ (A = none → c = 0):=by
 obtain ⟨A,c,e,hT,h1,h2,h3,_⟩:=Rw.Ts.of_own h.row
 refine ⟨A,c,e,⟨hT,fun x hx => ⟨h.ok x hx,?_⟩⟩,h1,h2,h3⟩
 obtain ⟨A',c',e',hT',_⟩:=Rw.Ts.of_own (h.ins x hx)
 cases e'
 exact hT'
end
theorem grown_set (w : World) (b o : Nat) (v : Value) : w.grownBy (w.setCell ⟨b,o,none⟩ v) (some b) :=
 ⟨rfl,rfl,rfl,by simp [World.setCell],fun k _ hk => Below.heap_setCell _ _ _ _ (fun e => hk (by rw [e]))⟩
theorem own_round {wr w1 : World} {base : Nat} {v v1 : Value} {d : List Gn} {l : List Value} {zs : List Int} (ho : OwnG wr base v d) (hbase : base ≤ wr.heap.size) (hg : (wr.alloc (.cells l.toArray 58)).grownBy w1 (Value.slice none 0 0).ownBlock)
 (h1 : w1.ownsRow base 3 kindI.K v1 (0 + zs.length) (Rw.row kindI ([] ++ zs))) :
 ∃ A1 cc,v1 = .slice A1 zs.length cc ∧ Row w1 wr.heap.size 58 l ∧ zs.length ≤ cc ∧ cc ≤ maxLen ∧ (A1 = none → cc = 0) ∧ ∀ o u,(w1.setCell ⟨wr.heap.size,o,none⟩ u).ownsRow base 3 kindI.K (.slice A1 zs.length cc) zs.length (Rw.row kindI zs) ∧ Below wr.heap.size wr (w1.setCell ⟨wr.heap.size,o,none⟩ u):=by
 rw [Nat.zero_add,List.nil_append] at h1
 obtain ⟨A1,cc,rfl,_,hc1,hc2,hn,_⟩:=Rw.Ts.of_own h1
 have hr : Row w1 wr.heap.size 58 l:=(Row.made wr _ l).grown hg (by intro e;cases e)
 refine ⟨A1,cc,rfl,hr,hc1,hc2,hn,fun o u => ⟨h1.kept (grown_set w1 _ _ _) ?_,?_⟩⟩
 · have:=Rw.own_apart h1 hr (by decide)
   exact .inr fun e => this e.symm
 · exact (((Below.refl _ wr).alloc (Nat.le_refl _) _).grown hg (by simp) (fun k e => by cases e)).setCell (Nat.le_refl _) _
def OwnedG (l : List Gn) (w : World) (e : Ending) (w' : World) : Prop:=(∃ v l',e = .returned v ∧ nds l' = nds l ∧ OwnG w' w.heap.size v l') ∧ Below w.heap.size w w'
set_option maxHeartbeats 4000000 in
theorem own_any (A : Option Addr) (l : List Gn) (c : Nat) (w : World) (hG : Gr w A l) (hl : l.length ≤ 1000) (hi : ∀ x ∈ l,x.nd.ins.length ≤ 1000) :
 Calls Tryz.prog 37 #[.slice A l.length c] w (OwnedG l w):=by
 have HG:=Hd hG;have HI:=Hd hi;clear hG hi
 go_enter Tryz.func37,Tryz.ntmps37
 go_wp2_with fail
 go_loopw [3,4] (fun v i wr => ∃ (k : Nat) (d : List Gn),k ≤ l.length ∧ i = .int .i64 k ∧ nds d = nds (l.take k) ∧ OwnG wr w.heap.size v d ∧ Below w.heap.size w wr) (fun _ i _ => l.length - (intOf i).toNat)
 case atStart => exact ⟨0,[],by omega,rfl,rfl,OwnG.nil _ _,Below.refl _ _⟩
 case round =>
  obtain ⟨k,d,hk,rfl,hd,hown,hb⟩:=hrel
  have hdl : d.length = k:=by
   have:=congrArg List.length hd
   simp only [nds,List.length_map,List.length_take] at this;omega
  have HD:=Hd hd;have HO:=Hd hown;have HB:=Hd hb;have HDL:=Hd hdl;clear hd hown hb hdl
  by_cases hlt : k < l.length
  · have hltz : (k : Int) < (l.length : Int):=by omega
    obtain ⟨x,hx⟩ : ∃ x,l[k]? = some x:=⟨_,List.getElem?_eq_getElem hlt⟩
    obtain ⟨b,o,rfl,hbl,hcl⟩:=HG.out.at_ hx
    obtain ⟨c0,c1,c2,c3,c4⟩:=hcl wr HB.out
    have HX:=Hd hx;clear hx hcl
    have hxo : x.Ok:=HG.out.ok HX.out
    have hix:=HI.out x (List.mem_of_getElem? HX.out)
    have hixm : 0 + x.nd.ins.length ≤ maxLen:=by unfold maxLen;omega
    have hixb : (0 + x.nd.ins.length) * 8 ≤ 140737488355328:=by omega
    have hbs : w.heap.size ≤ (wr.alloc (.cells #[.int .u8 (x.nd.k : Nat),.int .u8 (x.nd.a : Nat),.int .i64 x.nd.b,.int .i64 x.nd.d,.slice x.A x.nd.ins.length x.c] 58)).heap.size:=by have:=HB.out.size;simp;omega
    have hts : Rw.Ts kindI (wr.alloc (.cells #[.int .u8 (x.nd.k : Nat),.int .u8 (x.nd.a : Nat),.int .i64 x.nd.b,.int .i64 x.nd.d,.slice x.A x.nd.ins.length x.c] 58)) x.A x.nd.ins:=((HG.out.below HB.out).ins HX.out).below ((Below.refl _ wr).alloc (Nat.le_refl _) _)
    have hnn : x.A = none → x.c = 0 ∧ x.nd.ins = []:=fun e => ⟨hxo.none e,List.length_eq_zero_iff.1 (by have:=hxo.c.1;have:=hxo.none e;omega)⟩
    have HXO:=Hd hxo;have HIX:=Hd hix;have HXM:=Hd hixm;have HXB:=Hd hixb;have HBS:=Hd hbs;have HTS:=Hd hts;have HNN:=Hd hnn
    clear hxo hix hixm hixb hbs hts hnn
    go_wp2_with (first
     | (at_builtin
        refine Rw.append_own kindI 3 56 Tryz.underlying56 infoInt rfl rfl _ _ rfl w.heap.size _ 0 [] rfl (World.ownsRow_nil _ _ _ _) x.A x.c x.nd.ins rfl HNN.out HTS.out HXM.out HXB.out HBS.out ?_
        intro v1 w1 hv1 hg1
        obtain ⟨A1,cc,rfl,hrow,hcc1,hcc2,hccn,hset⟩:=own_round (l:=[.int .u8 (x.nd.k : Nat),.int .u8 (x.nd.a : Nat),.int .i64 x.nd.b,.int .i64 x.nd.d,.slice x.A x.nd.ins.length x.c]) HO.out HB.out.size hg1 hv1
        have d0 : w1.cell? ⟨wr.heap.size,0,none⟩ = some (.int .u8 (x.nd.k : Nat)):=hrow.cell 0
        have d1 : w1.cell? ⟨wr.heap.size,1,none⟩ = some (.int .u8 (x.nd.a : Nat)):=hrow.cell 1
        have d2 : w1.cell? ⟨wr.heap.size,2,none⟩ = some (.int .i64 x.nd.b):=hrow.cell 2
        have d3 : w1.cell? ⟨wr.heap.size,3,none⟩ = some (.int .i64 x.nd.d):=hrow.cell 3
        have d4 : w1.cell? ⟨wr.heap.size,4,none⟩ = some (.slice x.A x.nd.ins.length x.c):=hrow.cell 4
        have f4 : w1.frozen? ⟨wr.heap.size,4,none⟩ = false:=hrow.free 4
        obtain ⟨hin,hbl1⟩:=hset 4 (.slice A1 x.nd.ins.length cc)
        have hbz : w.heap.size ≤ (w1.setCell ⟨wr.heap.size,4,none⟩ (.slice A1 x.nd.ins.length cc)).heap.size:=by have:=HB.out.size;have:=hbl1.size;omega
        have hog:=(HO.out.below hbl1).alloc (.cells #[.int .u8 (x.nd.k : Nat),.int .u8 (x.nd.a : Nat),.int .i64 x.nd.b,.int .i64 x.nd.d,.slice A1 x.nd.ins.length cc] 58)
        have hbl2:=HB.out.trans (hbl1.mono HB.out.size)
        have HIN:=Hd hin;have HOG:=Hd hog;have HBL:=Hd hbl2;have HCC:=Hd (And.intro hcc1 (And.intro hcc2 hccn));have HBZ:=Hd hbz
        have hsz : (w1.setCell ⟨wr.heap.size,4,none⟩ (.slice A1 x.nd.ins.length cc)).heap.size = w1.heap.size:=by simp [World.setCell]
        have hty:=Rw.Ts.made (κ:=kindG) (w1.setCell ⟨wr.heap.size,4,none⟩ (.slice A1 x.nd.ins.length cc)) [⟨x.nd,A1,cc⟩] 58
        rw [hsz] at hty
        have HTY:=Hd hty
        clear hty hsz hin hog hbl1 hbl2 hcc1 hcc2 hccn hbz hset hrow hv1 hg1)
     | (at_builtin
        refine Rw.append_own kindG 58 23 Tryz.underlying23 infoNode rfl rfl _ _ rfl w.heap.size _ d.length d rfl HOG.out.row _ 1 [⟨x.nd,A1,cc⟩] rfl (by simp) HTY.out (by unfold maxLen;have:=HDL.out;simp;omega) (by have:=HDL.out;simp;omega) (by have:=HBZ.out;simp at this ⊢;omega) ?_
        intro v2 w2 hv2 hg2
        have hm:=OwnG.more HOG.out (x:=⟨x.nd,A1,cc⟩) ⟨HXO.out.k,HXO.out.a,HXO.out.b,HXO.out.d,HXO.out.ins,⟨HCC.out.1,HCC.out.2.1⟩,HCC.out.2.2⟩ (HIN.out.alloc _) hv2 hg2
        have hb2:=Rw.own_below HOG.out.row hg2 (HBL.out.alloc HBZ.out _) (by have:=HBZ.out;simp at this ⊢;omega)
        have HM:=Hd hm;have HB2:=Hd hb2
        clear hm hb2 hv2 hg2 HOG HIN HBL HCC HBZ HTY d0 d1 d2 d3 d4 f4))
    go_roundw
    case rel =>
     refine ⟨k + 1,d ++ [⟨x.nd,A1,cc⟩],by omega,by simp,?_,HM.out,HB2.out⟩
     have h1:=HD.out
     unfold nds at h1 ⊢
     rw [List.map_append,h1,List.take_add_one,HX.out];simp
    case measure => simp only [intOf];omega
  · have hltz : ¬ (k : Int) < (l.length : Int):=by omega
    have hkl : k = l.length:=by omega
    have HK:=Hd hkl;clear hkl hlt hk
    go_wp2_with fail
    go_ret
    exact ⟨⟨_,d,rfl,by rw [HD.out,HK.out,List.take_length],HO.out⟩,HB.out⟩
end

section
noncomputable def sameN (l m : List Nd) : Bool:=@decide (l = m) (Classical.propDecidable _)
theorem sameN_iff {l m : List Nd} : sameN l m = true ↔ l = m:=by unfold sameN;exact @decide_eq_true_iff _ (Classical.propDecidable _)
theorem sameN_no {l m : List Nd} (h : l ≠ m) : false = sameN l m:=by
 cases e : sameN l m with
 | true => exact absurd (sameN_iff.1 e) h
 | false => rfl
theorem sameN_yes {l m : List Nd} (h : l = m) : true = sameN l m:=(sameN_iff.2 h).symm
theorem nds_at {l m : List Gn} (h : nds l = nds m) {i : Nat} {x y : Gn} (hx : l[i]? = some x) (hy : m[i]? = some y) : x.nd = y.nd:=by
 have:=congrArg (·[i]?) h
 simp only [nds,List.getElem?_map,hx,hy,Option.map_some,Option.some.injEq] at this
 exact this
theorem nds_all {l m : List Gn} (hl : l.length = m.length) (h : ∀ (j : Nat) (x y : Gn),j < l.length → l[j]? = some x → m[j]? = some y → x.nd = y.nd) : nds l = nds m:=by
 apply List.ext_getElem?
 intro i
 unfold nds
 rw [List.getElem?_map,List.getElem?_map]
 by_cases hi : i < l.length
 · rw [List.getElem?_eq_getElem hi,List.getElem?_eq_getElem (show i < m.length by omega)]
   simp only [Option.map_some,Option.some.injEq]
   exact h i _ _ hi (List.getElem?_eq_getElem hi) (List.getElem?_eq_getElem (by omega))
 · rw [List.getElem?_eq_none (by omega),List.getElem?_eq_none (by omega)]
theorem made2 (w : World) (o : Obj) (t : TypeId) (l : List Value) : Row ((w.alloc o).alloc (.cells l.toArray t)) (w.heap.size + 1) t l:=by
 have:=Row.made (w.alloc o) t l
 rwa [show (w.alloc o).heap.size = w.heap.size + 1 by simp] at this
set_option maxHeartbeats 4000000 in
theorem refSame_any (A B : Option Addr) (l m : List Gn) (c d : Nat) (w : World) (hG : Gr w A l) (hH : Gr w B m) (hl : l.length ≤ maxLen) (hm : m.length ≤ maxLen) :
 Calls Tryz.prog 43 #[.slice A l.length c,.slice B m.length d] w fun e w' => e = .returned (.bool (sameN (nds l) (nds m))) ∧ Below w.heap.size w w':=by
 unfold maxLen at hl hm
 have HG:=Hd hG;have HH:=Hd hH;clear hG hH
 by_cases hlm : l.length = m.length
 · have hz : ((l.length : Int) != (m.length : Int)) = false:=by simp;omega
   have HLM:=Hd hlm
   go_enter Tryz.func43,Tryz.ntmps43
   go_wp2_with fail
   go_loopw [5] (fun i wr => ∃ k : Nat,k ≤ l.length ∧ i = .int .i64 k ∧ Below w.heap.size w wr ∧ ∀ (j : Nat) (x y : Gn),j < k → l[j]? = some x → m[j]? = some y → x.nd = y.nd) (fun i _ => l.length - (intOf i).toNat)
   case atStart => exact ⟨0,by omega,rfl,Below.refl _ _,fun j x y h => absurd h (by omega)⟩
   case round =>
    obtain ⟨k,hk,rfl,hb,hall⟩:=hrel
    have HA:=Hd hall;have HB:=Hd hb;clear hall hb hz
    by_cases hlt : k < l.length
    · have hltz : (k : Int) < (l.length : Int):=by omega
      have hltm : (k : Int) < (m.length : Int):=by omega
      obtain ⟨x,hx⟩ : ∃ x,l[k]? = some x:=⟨_,List.getElem?_eq_getElem hlt⟩
      obtain ⟨y,hy⟩ : ∃ y,m[k]? = some y:=⟨_,List.getElem?_eq_getElem (by omega)⟩
      obtain ⟨⟨xk,xa,xb,xd,xi⟩,xA,xc⟩:=x
      obtain ⟨⟨yk,ya,yb,yd,yi⟩,yA,yc⟩:=y
      obtain ⟨b,o,rfl,hbl,hcl⟩:=HG.out.at_ hx
      obtain ⟨b',o',rfl,hbl',hcl'⟩:=HH.out.at_ hy
      obtain ⟨c0,c1,c2,c3,c4⟩:=hcl wr HB.out
      obtain ⟨d0,d1,d2,d3,d4⟩:=hcl' wr HB.out
      simp only at c0 c1 c2 c3 c4 d0 d1 d2 d3 d4
      have q1 : b < wr.heap.size:=Nat.lt_of_lt_of_le hbl HB.out.size
      have q2 : b' < wr.heap.size:=Nat.lt_of_lt_of_le hbl' HB.out.size
      have HX:=Hd hx;have HY:=Hd hy;clear hx hcl hy hcl' hlm
      go_upto_region 6 with fail
      go_cut [6,7] from 14 to 80 (fun p q wx => ∃ g h,p = .pointer (some ⟨g,0,none⟩) ∧ q = .pointer (some ⟨h,0,none⟩) ∧ Row wx g 58 (kindG.cells ⟨⟨xk,xa,xb,xd,xi⟩,xA,xc⟩) ∧ Row wx h 58 (kindG.cells ⟨⟨yk,ya,yb,yd,yi⟩,yA,yc⟩) ∧ Below wr.heap.size wr wx)
      case first =>
       go_region
       all_goals
        go_wp2_with fail
        go_meet
        refine ⟨_,_,rfl,rfl,?_,?_,?_⟩
        · first | exact Row.drew (Row.alloc (Row.made _ _ _) _) | exact Row.drew (made2 _ _ _ (kindG.cells ⟨⟨xk,xa,xb,xd,xi⟩,xA,xc⟩))
        · first | exact Row.drew (Row.alloc (Row.made _ _ _) _) | exact Row.drew (made2 _ _ _ (kindG.cells ⟨⟨yk,ya,yb,yd,yi⟩,yA,yc⟩))
        · exact (((Below.refl _ wr).alloc (Nat.le_refl _) _).alloc (by simp) _).drew
      case rest =>
       obtain ⟨g,h,rfl,rfl,hg,hh,hbw⟩:=hcut
       have HBW:=Hd (HB.out.trans (hbw.mono HB.out.size))
       have e0 : wc.cell? ⟨g,0,none⟩ = some (.int .u8 (xk : Nat)):=hg.cell 0
       have e1 : wc.cell? ⟨g,1,none⟩ = some (.int .u8 (xa : Nat)):=hg.cell 1
       have e2 : wc.cell? ⟨g,2,none⟩ = some (.int .i64 xb):=hg.cell 2
       have e3 : wc.cell? ⟨g,3,none⟩ = some (.int .i64 xd):=hg.cell 3
       have e4 : wc.cell? ⟨g,4,none⟩ = some (.slice xA xi.length xc):=hg.cell 4
       have f0 : wc.cell? ⟨h,0,none⟩ = some (.int .u8 (yk : Nat)):=hh.cell 0
       have f1 : wc.cell? ⟨h,1,none⟩ = some (.int .u8 (ya : Nat)):=hh.cell 1
       have f2 : wc.cell? ⟨h,2,none⟩ = some (.int .i64 yb):=hh.cell 2
       have f3 : wc.cell? ⟨h,3,none⟩ = some (.int .i64 yd):=hh.cell 3
       have f4 : wc.cell? ⟨h,4,none⟩ = some (.slice yA yi.length yc):=hh.cell 4
       have HR:=Hd (And.intro hg hh)
       clear hg hh hbw c0 c1 c2 c3 c4 d0 d1 d2 d3 d4 q1 q2
       by_cases h0 : xk = yk
       · subst h0
         by_cases h1 : xa = ya
         · subst h1
           by_cases h2 : xb = yb
           · subst h2
             by_cases h3 : xd = yd
             · subst h3
               by_cases h5 : xi.length = yi.length
               · have hz : (((xi.length : Int) != (yi.length : Int)) = false):=by simp;omega
                 have H5:=Hd h5;clear h5
                 go_wp2_with fail
                 go_loopw [8] (fun i wx => ∃ p : Nat,p ≤ xi.length ∧ i = .int .i64 p ∧ Below wc.heap.size wc wx ∧ ∀ (j : Nat),j < p → xi[j]? = yi[j]?) (fun i _ => xi.length - (intOf i).toNat)
                 case atStart => exact ⟨0,by omega,rfl,Below.refl _ _,fun j h => absurd h (by omega)⟩
                 case round =>
                  obtain ⟨p,hp,rfl,hbx,hsm⟩:=hrel
                  have e4 : wr.cell? ⟨g,4,none⟩ = some (.slice xA xi.length xc):=(HR.out.1.below hbx HR.out.1.lt).cell 4
                  have f4 : wr.cell? ⟨h,4,none⟩ = some (.slice yA yi.length yc):=(HR.out.2.below hbx HR.out.2.lt).cell 4
                  have hxm : xi.length ≤ 9223372036854775807:=by have h1:=(HG.out.ok HX.out).c;unfold maxLen at h1;simp only at h1;omega
                  have HS:=Hd hsm;have HBX:=Hd hbx;clear hsm hbx
                  by_cases hlp : p < xi.length
                  · have hpz : (p : Int) < (xi.length : Int):=by omega
                    have hpy : (p : Int) < (yi.length : Int):=by have:=H5.out;omega
                    obtain ⟨z,hz1⟩ : ∃ z,xi[p]? = some z:=⟨_,List.getElem?_eq_getElem hlp⟩
                    obtain ⟨z',hz2⟩ : ∃ z',yi[p]? = some z':=⟨_,List.getElem?_eq_getElem (by omega)⟩
                    obtain ⟨bb,oo,rfl,_,hq1⟩:=ints_at (HG.out.ins HX.out) hz1
                    obtain ⟨bb',oo',rfl,_,hq2⟩:=ints_at (HH.out.ins HY.out) hz2
                    have q1:=hq1 wr (HBW.out.trans (HBX.out.mono HBW.out.size))
                    have q2:=hq2 wr (HBW.out.trans (HBX.out.mono HBW.out.size))
                    have HZ1:=Hd hz1;have HZ2:=Hd hz2;clear hz1 hz2 hq1 hq2
                    by_cases hzz : z = z'
                    · subst hzz
                      go_wp2_with fail
                      go_region
                      go_wp2_with fail
                      go_roundw
                      case rel =>
                       refine ⟨p + 1,by omega,by simp,HBX.out.drew,fun j hj => ?_⟩
                       by_cases e : j = p
                       · subst e;rw [HZ1.out,HZ2.out]
                       · exact HS.out j (by omega)
                      case measure => simp only [intOf];omega
                    · have hzb : (z != z') = true:=by simpa using hzz
                      have HN:=Hd hzz;clear hzz
                      go_wp2_with fail
                      go_region
                      go_wp2_with fail
                      go_ret
                      exact ⟨retb (sameN_no fun e => by have:=nds_at e HX.out HY.out;simp only [Nd.mk.injEq] at this;have h5:=HZ1.out;rw [this.2.2.2.2,HZ2.out] at h5;exact HN.out (Option.some.inj h5).symm),HBW.out.trans (HBX.out.drew.mono HBW.out.size)⟩
                  · have hpz : ¬ (p : Int) < (xi.length : Int):=by omega
                    have hins : xi = yi:=by
                     apply List.ext_getElem?
                     intro j
                     by_cases hj : j < p
                     · exact HS.out j hj
                     · have:=H5.out
                       rw [List.getElem?_eq_none (by omega),List.getElem?_eq_none (by omega)]
                    have HI:=Hd hins;clear hins
                    go_wp2_with fail
                    go_roundw
                    case rel =>
                     refine ⟨k + 1,by omega,by simp,HBW.out.trans (HBX.out.mono HBW.out.size),fun j x y hj hx hy => ?_⟩
                     by_cases e : j = k
                     · subst e
                       rw [HX.out] at hx;rw [HY.out] at hy;cases hx;cases hy
                       simp only [Nd.mk.injEq,true_and];exact HI.out
                     · exact HA.out j x y (by omega) hx hy
                    case measure => simp only [intOf];omega
               · have hz : (((xi.length : Int) != (yi.length : Int)) = true):=by simp;omega
                 have HN:=Hd h5;clear h5
                 go_wp2_with fail
                 go_ret
                 exact ⟨retb (sameN_no fun e => by have:=nds_at e HX.out HY.out;simp only [Nd.mk.injEq] at this;exact HN.out (by rw [this.2.2.2.2])),HBW.out⟩
             · have hz : ((xd != yd) = true):=by simp;omega
               have HN:=Hd h3;clear h3
               go_wp2_with fail
               go_ret
               exact ⟨retb (sameN_no fun e => by have:=nds_at e HX.out HY.out;simp only [Nd.mk.injEq] at this;exact HN.out this.2.2.2.1),HBW.out⟩
           · have hz : ((xb != yb) = true):=by simp;omega
             have HN:=Hd h2;clear h2
             go_wp2_with fail
             go_ret
             exact ⟨retb (sameN_no fun e => by have:=nds_at e HX.out HY.out;simp only [Nd.mk.injEq] at this;exact HN.out this.2.2.1),HBW.out⟩
         · have hz : (((xa : Int) != (ya : Int)) = true):=by simp;omega
           have HN:=Hd h1;clear h1
           go_wp2_with fail
           go_ret
           exact ⟨retb (sameN_no fun e => by have:=nds_at e HX.out HY.out;simp only [Nd.mk.injEq] at this;exact HN.out this.2.1),HBW.out⟩
       · have hz : (((xk : Int) != (yk : Int)) = true):=by simp;omega
         have HN:=Hd h0;clear h0
         go_wp2_with fail
         go_ret
         exact ⟨retb (sameN_no fun e => by have:=nds_at e HX.out HY.out;simp only [Nd.mk.injEq] at this;exact HN.out this.1),HBW.out⟩
    · have hltz : ¬ (k : Int) < (l.length : Int):=by omega
      have HE:=Hd (nds_all hlm fun j x y hj => HA.out j x y (by omega));clear hlm
      go_wp2_with fail
      go_ret
      exact ⟨retb (sameN_yes HE.out),HB.out⟩
 · have hz : ((l.length : Int) != (m.length : Int)) = true:=by simp;omega
   have HLM:=Hd hlm;clear hlm
   go_enter Tryz.func43,Tryz.ntmps43
   go_wp2_with fail
   go_ret
   exact ⟨retb (sameN_no fun e => HLM.out (by have:=congrArg List.length e;simpa [nds] using this)),Below.refl _ _⟩
end

section
noncomputable def mayB (g : List Nd) : Bool:=@decide (GMay g) (Classical.propDecidable _)
theorem mayB_iff {g : List Nd} : mayB g = true ↔ GMay g:=by unfold mayB;exact @decide_eq_true_iff _ (Classical.propDecidable _)
theorem mayB_no {g : List Nd} (h : ¬ GMay g) : false = mayB g:=by
 cases e : mayB g with
 | true => exact absurd (mayB_iff.1 e) h
 | false => rfl
theorem mayB_yes {g : List Nd} (h : GMay g) : true = mayB g:=(mayB_iff.2 h).symm
theorem may_node {l : List Gn} {k : Nat} {x : Gn} (hx : l[k]? = some x) (h : ¬ x.nd.May) : ¬ GMay (nds l):=fun hh => h (hh.2 x.nd (List.mem_map.2 ⟨x,List.mem_of_getElem? hx,rfl⟩))
theorem may_all {l : List Gn} (h : ∀ (j : Nat) (x : Gn),l[j]? = some x → x.nd.May) : ∀ n ∈ nds l,n.May:=by
 intro n hn
 obtain ⟨x,hx,rfl⟩:=List.mem_map.1 hn
 obtain ⟨j,hj⟩:=List.getElem?_of_mem hx
 exact h j x hj
theorem nds_len (l : List Gn) : (nds l).length = l.length:=by unfold nds;rw [List.length_map]
set_option maxHeartbeats 4000000 in
theorem refMay_any (A : Option Addr) (l : List Gn) (c : Nat) (w : World) (hG : Gr w A l) (hl : l.length ≤ maxLen) :
 Calls Tryz.prog 134 #[.slice A l.length c] w fun e w' => e = .returned (.bool (mayB (nds l))) ∧ w = w':=by
 unfold maxLen at hl
 have HG:=Hd hG;clear hG
 go_enter Tryz.func134,Tryz.ntmps134
 go_wp2_with fail
 go_loop [3] (fun i => ∃ k : Nat,k ≤ l.length ∧ i = .int .i64 k ∧ ∀ (j : Nat) (x : Gn),j < k → l[j]? = some x → x.nd.May) (fun i => l.length - (intOf i).toNat)
 case atStart => exact ⟨0,by omega,rfl,fun j x h => absurd h (by omega)⟩
 case round =>
  obtain ⟨k,hk,rfl,hall⟩:=hrel
  have HA:=Hd hall;clear hall
  by_cases hlt : k < l.length
  · have hltz : (k : Int) < (l.length : Int):=by omega
    obtain ⟨x,hx⟩ : ∃ x,l[k]? = some x:=⟨_,List.getElem?_eq_getElem hlt⟩
    obtain ⟨⟨xk,xa,xb,xd,xi⟩,xA,xc⟩:=x
    obtain ⟨b,o,rfl,hbl,hcl⟩:=HG.out.at_ hx
    obtain ⟨_,_,_,c3,c4⟩:=hcl w (Below.refl _ _)
    simp only at c3 c4
    have hxm : xi.length ≤ 9223372036854775807:=by have h1:=(HG.out.ok hx).c;unfold maxLen at h1;simp only at h1;omega
    have HX:=Hd hx;clear hx hcl
    by_cases h1 : xd < 0
    · go_wp2_with fail
      go_ret
      exact ⟨retb (mayB_no (may_node HX.out fun h => by have:=h.1.1;simp only at this;omega)),rfl⟩
    · by_cases h2 : 3 < xd
      · go_wp2_with fail
        go_ret
        exact ⟨retb (mayB_no (may_node HX.out fun h => by have:=h.1.2;simp only at this;omega)),rfl⟩
      · by_cases h3 : 2 < (xi.length : Int)
        · go_wp2_with fail
          go_ret
          exact ⟨retb (mayB_no (may_node HX.out fun h => by have:=h.2.1;simp only at this;omega)),rfl⟩
        · go_wp2_with fail
          go_loop [4] (fun i => ∃ p : Nat,p ≤ xi.length ∧ i = .int .i64 p ∧ ∀ (j : Nat) (z : Int),j < p → xi[j]? = some z → 0 ≤ z ∧ z ≤ 31) (fun i => xi.length - (intOf i).toNat)
          case atStart => exact ⟨0,by omega,rfl,fun j x h => absurd h (by omega)⟩
          case round =>
           obtain ⟨p,hp,rfl,hins⟩:=hrel
           have HI:=Hd hins;clear hins
           by_cases hlp : p < xi.length
           · have hpz : (p : Int) < (xi.length : Int):=by omega
             obtain ⟨z,hz1⟩ : ∃ z,xi[p]? = some z:=⟨_,List.getElem?_eq_getElem hlp⟩
             obtain ⟨bb,oo,rfl,_,hq1⟩:=ints_at (HG.out.ins HX.out) hz1
             have q1:=hq1 w (Below.refl _ _)
             have HZ1:=Hd hz1;clear hz1 hq1
             by_cases h4 : z < 0
             · go_wp2_with fail
               go_ret
               exact ⟨retb (mayB_no (may_node HX.out fun h => by have:=(h.2.2 z (List.mem_of_getElem? HZ1.out)).1;omega)),rfl⟩
             · by_cases h5 : 31 < z
               · go_wp2_with fail
                 go_ret
                 exact ⟨retb (mayB_no (may_node HX.out fun h => by have:=(h.2.2 z (List.mem_of_getElem? HZ1.out)).2;omega)),rfl⟩
               · go_wp2_with fail
                 go_round
                 case rel =>
                  refine ⟨p + 1,by omega,by simp,fun j y hj hy => ?_⟩
                  by_cases e : j = p
                  · subst e
                    rw [HZ1.out] at hy;cases hy
                    omega
                  · exact HI.out j y (by omega) hy
                 case measure => simp only [intOf];omega
           · have hpz : ¬ (p : Int) < (xi.length : Int):=by omega
             go_wp2_with fail
             go_round
             case rel =>
              refine ⟨k + 1,by omega,by simp,fun j y hj hy => ?_⟩
              by_cases e : j = k
              · subst e
                rw [HX.out] at hy;cases hy
                refine ⟨⟨by simp only;omega,by simp only;omega⟩,by simp only;omega,fun z hz => ?_⟩
                obtain ⟨i,hi⟩:=List.getElem?_of_mem hz
                exact HI.out i z (by have:=(List.getElem?_eq_some_iff.1 hi).1;simp only at this;omega) hi
              · exact HA.out j y (by omega) hy
             case measure => simp only [intOf];omega
  · have hltz : ¬ (k : Int) < (l.length : Int):=by omega
    have HALL:=Hd (may_all (l:=l) fun j x hj => HA.out j x (by have:=(List.getElem?_eq_some_iff.1 hj).1;omega) hj)
    by_cases h1 : 1 ≤ l.length
    · by_cases h2 : l.length ≤ 32
      · go_wp2_with fail
        go_ret
        exact ⟨retb ((decide_eq_true (by omega)).trans (mayB_yes ⟨by rw [nds_len];omega,HALL.out⟩)),rfl⟩
      · go_wp2_with fail
        go_ret
        exact ⟨retb ((decide_eq_false (by omega)).trans (mayB_no fun h => by have:=h.1.2;rw [nds_len] at this;omega)),rfl⟩
    · go_wp2_with fail
      go_ret
      exact ⟨retb (mayB_no fun h => by have:=h.1.1;rw [nds_len] at this;omega),rfl⟩
end

section
open Go.RowKit
def toIn (n : Nat) (i : Int) : Nat → List Int → List (Nat × Nat)
 | _,[] => []
 | p,x :: l => (if x = i then [(n,p)] else []) ++ toIn n i (p + 1) l
def toG (i : Int) : Nat → List Nd → List (Nat × Nat)
 | _,[] => []
 | n,x :: g => toIn n i 0 x.ins ++ toG i (n + 1) g
theorem toIn_snoc (n : Nat) (i : Int) : ∀ (l : List Int) (p : Nat) (x : Int),toIn n i p (l ++ [x]) = toIn n i p l ++ if x = i then [(n,p + l.length)] else []
 | [],p,x => by simp [toIn]
 | y :: l,p,x => by
   rw [List.cons_append]
   simp only [toIn]
   rw [toIn_snoc n i l (p + 1) x,List.append_assoc,List.length_cons,show p + 1 + l.length = p + (l.length + 1) by omega]
theorem toG_snoc (i : Int) : ∀ (g : List Nd) (n : Nat) (x : Nd),toG i n (g ++ [x]) = toG i n g ++ toIn (n + g.length) i 0 x.ins
 | [],n,x => by simp [toG]
 | y :: g,n,x => by
   rw [List.cons_append]
   simp only [toG]
   rw [toG_snoc i g (n + 1) x,List.append_assoc,List.length_cons,show n + 1 + g.length = n + (g.length + 1) by omega]
theorem toIn_take {l : List Int} {p : Nat} {x : Int} (n : Nat) (i : Int) (h : l[p]? = some x) : toIn n i 0 (l.take (p + 1)) = toIn n i 0 (l.take p) ++ if x = i then [(n,p)] else []:=by
 have:=(List.getElem?_eq_some_iff.1 h).1
 rw [List.take_add_one,h,Option.toList_some,toIn_snoc,List.length_take,Nat.min_eq_left (by omega),Nat.zero_add]
theorem toG_take {l : List Gn} {k : Nat} {x : Gn} (i : Int) (h : l[k]? = some x) : toG i 0 (nds (l.take (k + 1))) = toG i 0 (nds (l.take k)) ++ toIn k i 0 x.nd.ins:=by
 have:=(List.getElem?_eq_some_iff.1 h).1
 unfold nds
 rw [List.take_add_one,h,Option.toList_some,List.map_append,List.map_cons,List.map_nil,toG_snoc,List.length_map,List.length_take,Nat.min_eq_left (by omega),Nat.zero_add]
theorem toIn_len (n : Nat) (i : Int) : ∀ (l : List Int) (p : Nat),(toIn n i p l).length ≤ l.length
 | [],p => by simp [toIn]
 | x :: l,p => by
   have:=toIn_len n i l (p + 1)
   simp only [toIn,List.length_append,List.length_cons]
   split <;> simp <;> omega
theorem toG_len (i : Int) (T : Nat) : ∀ (g : List Nd) (n : Nat),(∀ x ∈ g,x.ins.length ≤ T) → (toG i n g).length ≤ g.length * T
 | [],n,_ => by simp [toG]
 | x :: g,n,h => by
   have h1:=toG_len i T g (n + 1) fun y hy => h y (List.mem_cons_of_mem _ hy)
   have h2:=toIn_len n i x.ins 0
   have h3:=h x List.mem_cons_self
   simp only [toG,List.length_append,List.length_cons,Nat.succ_mul]
   omega
end
end Go.Proofs.YtonelpnhoiajgaaGreatDoor
