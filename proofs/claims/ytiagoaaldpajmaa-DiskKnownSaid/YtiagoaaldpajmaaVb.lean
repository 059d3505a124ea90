/- Several texts in one: Disk, Ops, Region, Look. -/
import Derived.Test.YtiagoaaldpajmaaVa
import Derived.Test.YtiagoaaldpajmaaRows
import Derived.WalkKit
import Derived.ProofKit
import Derived.OpenShut
import Derived.Lib.Hide
import Derived.Outline
import Derived.BigQuiet
import Derived.Laws.LoneSync
import Derived.IntWalk
import Derived.Deep.QuietTactic
namespace Go.Proofs.Ytiagoaaldpajmaa
open Go.RowKit Go.Maps

/-- what lies outside F is as it was -/
structure Touch (F : Nat → Prop) (w w' : World) : Prop where
  os : w'.os = w.os
  tape : w'.tape = w.tape
  output : w'.output = w.output
  size : w.heap.size ≤ w'.heap.size
  block : ∀ k, k < w.heap.size → ¬ F k → w'.heap[k]? = w.heap[k]?
section
variable {F F' : Nat → Prop} {w w' w'' : World}
theorem Touch.refl (F : Nat → Prop) (w : World) : Touch F w w := ⟨rfl, rfl, rfl, Nat.le_refl _, fun _ _ _ => rfl⟩
theorem Touch.trans' (h : Touch F w w') (k : Touch F' w' w'') (hF : ∀ i, F' i → F i ∨ w.heap.size ≤ i) : Touch F w w'' :=
  ⟨k.os.trans h.os, k.tape.trans h.tape, k.output.trans h.output, Nat.le_trans h.size k.size, fun i hi hn =>
    (k.block i (Nat.lt_of_lt_of_le hi h.size) (fun e => (hF i e).elim hn (by omega))).trans (h.block i hi hn)⟩
theorem Touch.trans (h : Touch F w w') (k : Touch F w' w'') : Touch F w w'' := h.trans' k fun _ h => .inl h
theorem Touch.mono (h : Touch F w w') (hF : ∀ i, F i → F' i) : Touch F' w w' := ⟨h.os, h.tape, h.output, h.size, fun i hi hn => h.block i hi fun e => hn (hF i e)⟩
theorem Touch.drew (h : Touch F w w') : Touch F w w'.drew := ⟨h.os, h.tape, h.output, h.size, h.block⟩
theorem Touch.drewN (h : Touch F w w') (n : Nat) : Touch F w (w'.drewN n) := ⟨h.os, h.tape, h.output, h.size, h.block⟩
theorem Touch.setCell (h : Touch F w w') {p : Addr} (hp : F p.block ∨ w.heap.size ≤ p.block) (u : Value) : Touch F w (w'.setCell p u) :=
  ⟨h.os, h.tape, h.output, by simpa using h.size, fun i hi hn => (Below.heap_setCell w' p u i (fun e => by subst e; exact hp.elim hn (by omega))).trans (h.block i hi hn)⟩
theorem Touch.alloc (h : Touch F w w') (o : Obj) : Touch F w (w'.alloc o) :=
  ⟨h.os, h.tape, h.output, by simp; have := h.size; omega, fun i hi hn => (Below.heap_alloc w' o i (Nat.lt_of_lt_of_le hi h.size)).trans (h.block i hi hn)⟩
theorem Touch.of_grown {row : Option Nat} (h : w.grownBy w' row) (hF : ∀ k, row = some k → F k) : Touch F w w' :=
  ⟨h.os, h.tape, h.output, h.size, fun i hi hn => h.block i hi fun e => hn (hF i e.symm)⟩
theorem Touch.of_below (h : Below w.heap.size w w') : Touch F w w' := ⟨h.os, h.tape, h.output, h.size, fun i hi _ => h.block i hi⟩
theorem Touch.below (h : Touch F w w') {B : Nat} (hF : ∀ i, F i → B ≤ i) (hB : B ≤ w.heap.size) : Below B w w' := ⟨h.os, h.tape, h.output, h.size, fun i hi => h.block i (by omega) fun e => by have := hF i e; omega⟩
end
theorem Row.touch {F : Nat → Prop} {w w' : World} {g : Nat} {t : TypeId} {l : List Value} (h : Row w g t l) (ht : Touch F w w') (hg : ¬ F g) : Row w' g t l := (ht.block g h.lt hg).trans h
theorem ownsMap_touch {F : Nat → Prop} {w w' : World} {P : Program} {k : TypeId} {R : Value → Option (DataW Unit × List MemPlace)} {b n : Nat} {D : DataW Unit} (h : w.ownsMap P k R b n D) (ht : Touch F w w') (hb : ¬ F b) : w'.ownsMap P k R b n D := by
  have hlt := h.lt
  obtain ⟨es, clock, hh, F, hs, hD⟩ := h
  exact ⟨es, clock, (ht.block b hlt hb).trans hh, F, hs, hD⟩
theorem ownsMap_tight {w : World} {P : Program} {k : TypeId} {R : Value → Option (DataW Unit × List MemPlace)} {b n : Nat} {D : DataW Unit} (h : w.ownsMap P k R b n D) : w.ownsMap P k R b (Maps.size D) D := by
  obtain ⟨es, clock, hh, F, hs, rfl⟩ := h
  exact ⟨es, clock, hh, F, by simp [Maps.size, length_sorted], rfl⟩
theorem ownsRow_touch {F : Nat → Prop} {w w' : World} {base : Nat} {e : TypeId} {size : Nat} {v : Value} {n : Nat} {xs : List Value} (h : w.ownsRow base e size v n xs) (ht : Touch F w w') (hv : ∀ k, v.ownBlock = some k → ¬ F k) : w'.ownsRow base e size v n xs := by
  have hlt := h.lt
  obtain ⟨hlen, h | ⟨g, cap, cur, rfl, hg, hh, h1, h2, h3, h4⟩⟩ := h
  · exact ⟨hlen, .inl h⟩
  · exact ⟨hlen, .inr ⟨g, cap, cur, rfl, hg, (ht.block g (hlt g rfl).2 (hv g rfl)).trans hh, h1, h2, h3, h4⟩⟩

/-- how a pointer to a block reads -/
def refPtr : Value → Option (DataW Unit × List MemPlace)
  | .pointer (some ⟨b, 0, none⟩) => some (.lit (.int .i64 (b : Nat)), [])
  | .pointer none => some (.nil, [])
  | _ => none
theorem refPtr_inv {v : Value} {b : Nat} {ps : List MemPlace} (h : refPtr v = some (.lit (.int .i64 (b : Nat)), ps)) : v = .pointer (some ⟨b, 0, none⟩) := by
  unfold refPtr at h
  split at h
  · rename_i b'
    simp at h
    obtain rfl : b' = b := by omega
    rfl
  · simp at h
  · cases h
theorem refPtr_nil {v : Value} {ps : List MemPlace} (h : refPtr v = some (.nil, ps)) : v = .pointer none := by
  unfold refPtr at h
  split at h
  · simp at h
  · rfl
  · cases h

abbrev TD : TypeId := 65
abbrev TF : TypeId := 73
abbrev TM : TypeId := 57
theorem und_map : Try.prog.underlying 57 = some (.map 9 70) := by kernel_rfl
theorem und_str : Try.prog.underlying 9 = some .string := by kernel_rfl
theorem str_law : Maps.Keyed Try.prog 9 := string_keyed und_str
theorem zero_ptr (w : World) : (zeroValue 70).run Try.prog w = .ok (.pointer none) w := by kernel_rfl
theorem key_of {s : ByteArray} (h : s.size ≤ maxLen) : keyOf Try.prog 9 (.string s) = some (.string s.data.toList) := WideMaps.keyOf_string_mk und_str h

structure DM where
  room : Nat
  fs : Fs
  deeds : Nat
  off : Bool
  fuse : Nat

/-- a file in memory -/
structure FileAt (w : World) (b : Nat) (v : Value) (f : Fil) : Prop where
  row : Row w b TF [v, .int .i64 (f.sure : Nat), .bool f.made]
  own : w.ownsRow 0 5 1 v f.b.length (u8s f.b)
  lt : ∀ x ∈ f.b, x < 256
def MapAt (w : World) : Option Nat → Fs → (Nm → Nat) → Prop
  | none, fs, _ => fs = []
  | some b, fs, g => w.ownsMap Try.prog 9 refPtr b fs.length (dat fs g)
/-- the files of a map, in memory, each by itself, inside F -/
structure FilesAt (w : World) (F : Nat → Prop) (fs : Fs) (g : Nm → Nat) (v : Nm → Value) : Prop where
  at_ : ∀ n f, getF n fs = some f → FileAt w (g n) (v n) f
  mem : ∀ n f, getF n fs = some f → F (g n)
  memv : ∀ n f, getF n fs = some f → ∀ k, (v n).ownBlock = some k → F k
  apart : ∀ n m f h, getF n fs = some f → getF m fs = some h → n ≠ m → g n ≠ g m
  apartv : ∀ n m f h, getF n fs = some f → getF m fs = some h → n ≠ m → ∀ k, (v n).ownBlock = some k → (v m).ownBlock ≠ some k
structure OkFs (fs : Fs) : Prop where
  sort : SortF fs
  name : ∀ n f, getF n fs = some f → 1 ≤ n.length ∧ n.length ≤ 128
  sure : ∀ n f, getF n fs = some f → f.sure ≤ f.b.length
  len : ∀ n f, getF n fs = some f → f.b.length ≤ 8388608
abbrev dcells (room used : Nat) (mm : Option Nat) (deeds : Nat) (off : Bool) (fuse : Nat) : List Value :=
  [.int .i64 (room : Nat), .int .i64 (used : Nat), .map mm, .int .i64 (deeds : Nat), .bool off, .int .u64 (fuse : Nat)]
structure DiskAt (w : World) (p : Nat) (d : DM) (F : Nat → Prop) (mm : Option Nat) (g : Nm → Nat) (v : Nm → Value) : Prop where
  row : Row w p TD (dcells d.room (usedF d.fs) mm d.deeds d.off d.fuse)
  map : MapAt w mm d.fs g
  files : FilesAt w F d.fs g v
  memp : F p
  memm : ∀ b, mm = some b → F b
  ok : OkFs d.fs
  used : usedF d.fs ≤ d.room
  room : d.room ≤ 9223372036854775807
  few : d.fs.length ≤ d.deeds
  fuse : d.fuse ≤ 9223372036854775808
def IsDisk (w : World) (p : Nat) (d : DM) (F : Nat → Prop) : Prop := ∃ mm g v, DiskAt w p d F mm g v

section
variable {F F' : Nat → Prop} {w w' : World} {b : Nat} {v : Value} {f : Fil}
theorem FileAt.touch (h : FileAt w b v f) (ht : Touch F w w') (hb : ¬ F b) (hv : ∀ k, v.ownBlock = some k → ¬ F k) : FileAt w' b v f := ⟨h.row.touch ht hb, ownsRow_touch h.own ht hv, h.lt⟩
theorem MapAt.touch {mm : Option Nat} {fs : Fs} {g : Nm → Nat} (h : MapAt w mm fs g) (ht : Touch F w w') (hb : ∀ b, mm = some b → ¬ F b) : MapAt w' mm fs g := by
  cases mm with
  | none => exact h
  | some b => exact ownsMap_touch h ht (hb b rfl)
theorem FilesAt.touch {fs : Fs} {g : Nm → Nat} {v : Nm → Value} (h : FilesAt w F fs g v) (ht : Touch F' w w') (hF : ∀ k, F k → ¬ F' k) : FilesAt w' F fs g v :=
  ⟨fun n f hf => (h.at_ n f hf).touch ht (hF _ (h.mem n f hf)) (fun k hk => hF _ (h.memv n f hf k hk)), h.mem, h.memv, h.apart, h.apartv⟩
theorem DiskAt.touch {p : Nat} {d : DM} {mm : Option Nat} {g : Nm → Nat} {v : Nm → Value} (h : DiskAt w p d F mm g v) (ht : Touch F' w w') (hF : ∀ k, F k → ¬ F' k) : DiskAt w' p d F mm g v :=
  ⟨h.row.touch ht (hF _ h.memp), h.map.touch ht (fun b hb => hF _ (h.memm b hb)), h.files.touch ht hF, h.memp, h.memm, h.ok, h.used, h.room, h.few, h.fuse⟩
end
end Go.Proofs.Ytiagoaaldpajmaa
namespace Go.Proofs.Ytiagoaaldpajmaa
open Go.ChangeShapes Go.WideShapes Go.ChangeAt Go.RowKit Go.BigFrame
set_option linter.unusedVariables false

section
variable {w : World} {p r u dd f : Nat} {m : Option Nat} {o : Bool}
theorem drow (h : Row w p TD (dcells r u m dd o f)) : w.cell? ⟨p, 0, none⟩ = some (.int .i64 (r : Nat)) ∧ w.cell? ⟨p, 1, none⟩ = some (.int .i64 (u : Nat)) ∧ w.cell? ⟨p, 2, none⟩ = some (.map m) ∧
    w.cell? ⟨p, 3, none⟩ = some (.int .i64 (dd : Nat)) ∧ w.cell? ⟨p, 4, none⟩ = some (.bool o) ∧ w.cell? ⟨p, 5, none⟩ = some (.int .u64 (f : Nat)) :=
  ⟨h.cell 0, h.cell 1, h.cell 2, h.cell 3, h.cell 4, h.cell 5⟩
end
theorem arith_add (x : Nat) (w : World) (h : x ≤ 1000000000) : (Op.intArith .add .i64 (x : Nat) 1).run Try.prog w = .ok (.int .i64 ((x + 1 : Nat) : Int)) w := by
  have e : IntKind.i64.wrap ((x : Int) + 1) = x + 1 := IntWalk.i64_in _ (by omega)
  simp [Op.intArith, go_sem, e]

theorem add_any (p x : Nat) (w : World) (hc : w.cell? ⟨p, 3, none⟩ = some (.int .i64 (x : Nat))) (hz : w.frozen? ⟨p, 3, none⟩ = false) (hx : x ≤ 1000000000) :
    Calls Try.prog 66 #[.pointer (some ⟨p, 3, none⟩), .int .i64 1] w fun e w' => e = .returned (.int .i64 ((x + 1 : Nat) : Int)) ∧ w' = w.setCell ⟨p, 3, none⟩ (.int .i64 ((x + 1 : Nat) : Int)) := by
  have hrun := run_call_add (P := Try.prog) (f := 74) Try.func74 (by kernel_rfl) (by kernel_rfl) (by kernel_rfl) .i64 (by kernel_rfl) (a := ⟨p, 3, none⟩) (x := (x : Nat)) (y := 1) (s := ((x + 1 : Nat) : Int)) hc hz (arith_add x w hx)
  go_enter Try.func66, Try.ntmps66
  go_wp2
  go_ret
  exact ⟨rfl, rfl⟩
theorem load_any (p x : Nat) (w : World) (hc : w.cell? ⟨p, 3, none⟩ = some (.int .i64 (x : Nat))) :
    Calls Try.prog 33 #[.pointer (some ⟨p, 3, none⟩)] w fun e w' => e = .returned (.int .i64 (x : Nat)) ∧ w' = w := by
  have hrun := run_call_load (P := Try.prog) (f := 65) Try.func65 (by kernel_rfl) (by kernel_rfl) (by kernel_rfl) .i64 (by kernel_rfl) (a := ⟨p, 3, none⟩) (x := (x : Nat)) hc
  go_enter Try.func33, Try.ntmps33
  go_wp2
  go_ret
  exact ⟨rfl, rfl⟩
theorem left_any (n m : Int) (w : World) (hn : -9223372036854775808 ≤ n ∧ n ≤ 9223372036854775807) (hm : 1 ≤ m ∧ m ≤ 8388609) :
    Calls Try.prog 67 #[.int .i64 n, .int .i64 m] w fun e w' => e = .returned (.int .i64 (n % m)) ∧ w = w' := by
  obtain ⟨hn1, hn2⟩ := hn
  obtain ⟨hm1, hm2⟩ := hm
  have t1 : n.tmod m < m := Int.tmod_lt_of_pos _ (by omega)
  have t2 : -m < n.tmod m := by have := Int.lt_tmod_of_pos n (show 0 < m by omega); omega
  go_enter Try.func67, Try.ntmps67
  go_wp2
  go_ret
  refine ⟨?_, rfl⟩
  have e : (n.tmod m + m) % m = n % m := by
    rw [Int.add_emod_right, Int.tmod_def, Int.sub_mul_emod_self_left]
  show Ending.returned (.int .i64 ((n.tmod m + m) % m)) = _
  rw [e]
section
variable {w : World} {p r u dd f : Nat} {m : Option Nat} {o : Bool}
theorem crash_any (h : Row w p TD (dcells r u m dd o f)) :
    Calls Try.prog 15 #[.pointer (some ⟨p, 0, none⟩)] w fun e w' => e = .returned (.tuple #[]) ∧ w' = (w.setCell ⟨p, 4, none⟩ (.bool true)).setCell ⟨p, 5, none⟩ (.int .u64 0) := by
  obtain ⟨h0, h1, h2, h3, h4, h5⟩ := drow h
  have hz := h.free
  go_enter Try.func15, Try.ntmps15
  go_wp2
  go_end0
  exact ⟨rfl, rfl⟩
theorem used_any (h : Row w p TD (dcells r u m dd o f)) :
    Calls Try.prog 27 #[.pointer (some ⟨p, 0, none⟩)] w fun e w' => e = .returned (.int .i64 (u : Nat)) ∧ w = w' := by
  obtain ⟨h0, h1, h2, h3, h4, h5⟩ := drow h
  go_enter Try.func27, Try.ntmps27
  go_wp2
  go_ret
  exact ⟨rfl, rfl⟩
theorem steps_any (h : Row w p TD (dcells r u m dd o f)) :
    Calls Try.prog 29 #[.pointer (some ⟨p, 0, none⟩)] w fun e w' => e = .returned (.int .i64 (dd : Nat)) ∧ w = w' := by
  obtain ⟨h0, h1, h2, h3, h4, h5⟩ := drow h
  go_enter Try.func29, Try.ntmps29
  go_wp2_with (go_at_call 33; refine (load_any _ _ _ h3).mono ?_; rintro e w' ⟨rfl, rfl⟩)
  go_ret
  exact ⟨rfl, rfl⟩
theorem off_any (h : Row w p TD (dcells r u m dd o f)) :
    Calls Try.prog 31 #[.pointer (some ⟨p, 0, none⟩)] w fun e w' => e = .returned (.bool o) ∧ w = w' := by
  obtain ⟨h0, h1, h2, h3, h4, h5⟩ := drow h
  go_enter Try.func31, Try.ntmps31
  go_wp2
  go_ret
  exact ⟨rfl, rfl⟩
theorem fail_any (n : Int) (h : Row w p TD (dcells r u m dd o f)) (hn : -9223372036854775808 ≤ n ∧ n ≤ 9223372036854775807) :
    Calls Try.prog 25 #[.pointer (some ⟨p, 0, none⟩), .int .i64 n] w fun e w' => e = .returned (.tuple #[]) ∧ Row w' p TD (dcells r u m dd o (n + 1).toNat) ∧ Touch (· = p) w w' := by
  obtain ⟨h0, h1, h2, h3, h4, h5⟩ := drow h
  have hz := h.free
  by_cases hn0 : 0 ≤ n
  · go_enter Try.func25, Try.ntmps25
    go_wp2
    go_end0
    refine ⟨rfl, ?_, ?_⟩
    · have hp := (h.put 5 (.int .u64 0)).put 5 (.int .u64 (n + 1))
      have e : (((n + 1).toNat : Nat) : Int) = n + 1 := by omega
      unfold dcells
      rw [e]
      exact hp
    · exact ((Touch.refl (· = p) _).setCell (p := ⟨p, 5, none⟩) (.inl rfl) _).setCell (p := ⟨p, 5, none⟩) (.inl rfl) _
  · go_enter Try.func25, Try.ntmps25
    go_wp2
    go_end0
    refine ⟨rfl, ?_, ((Touch.refl (· = p) _).setCell (p := ⟨p, 5, none⟩) (.inl rfl) _)⟩
    have := h.put 5 (.int .u64 0)
    rw [show (n + 1).toNat = 0 by omega]
    exact this
end
theorem new_any (q : Int) (w : World) (hq : -9223372036854775808 ≤ q ∧ q ≤ 9223372036854775807) :
    Calls Try.prog 11 #[.int .i64 q] w fun e w' => e = .returned (.pointer (some ⟨w.heap.size, 0, none⟩)) ∧ w' = w.alloc (.cells (dcells (max q 0).toNat 0 none 0 false 0).toArray TD) := by
  go_enter Try.func11, Try.ntmps11
  go_wp2
  · go_ret
    rw [show (max q 0).toNat = 0 by omega]
    exact ⟨rfl, rfl⟩
  · go_ret
    have : ((max q 0).toNat : Int) = q := by omega
    refine ⟨rfl, ?_⟩
    unfold dcells
    rw [this]
    rfl
end Go.Proofs.Ytiagoaaldpajmaa
namespace Go.Proofs.Ytiagoaaldpajmaa
open Go.RowKit
theorem wp_region_below {P : Program} {id : Nat} {Q : Exit → Act → World → Prop} {a : Act} {w : World} {l : List Oper} (hm : P.follows .mixedOrders = true) (hB : Region.lexB .any l.toArray = true)
    (h : wpQuiet P l.toArray (fun w' => Below w.heap.size w w') (fun a' => ∀ w', Below w.heap.size w w' → Q .normal a' w') l a) : (Code.region id l.toArray true).wp P Q a w :=
  wp_region_quiet (C := fun w' => Below w.heap.size w w') hm hB ((Below.refl _ _).drew) (by simpa using h)
end Go.Proofs.Ytiagoaaldpajmaa
namespace Go.Proofs.Ytiagoaaldpajmaa
open Go.ChangeShapes Go.WideShapes Go.ChangeAt Go.RowKit Go.BigFrame
set_option linter.unusedVariables false

/-- a name has from 1 to 128 bytes -/
def okName (s : ByteArray) : Bool := decide (1 ≤ s.size) && decide (s.size ≤ 128)
def lookE (o : Bool) (ns : List ByteArray) : Int := if o = true then 30 else if ns.all okName = true then 0 else 2

theorem lookE_bad {ns : List ByteArray} {k : Nat} (hk : k < ns.length) (h : okName ns[k] = false) : lookE false ns = 2 := by
  have : ns.all okName = false := by
    rw [Bool.eq_false_iff]
    intro ha
    rw [List.all_eq_true] at ha
    rw [ha _ (List.getElem_mem hk)] at h; cases h
  simp [lookE, this]
theorem all_next {ns : List ByteArray} {k : Nat} (hk : k < ns.length) (h : okName ns[k] = true) (ha : (ns.take k).all okName = true) : (ns.take (k + 1)).all okName = true := by
  rw [List.take_succ_eq_append_getElem hk, List.all_append, ha]
  simp [h]
theorem ret_int {k : IntKind} {a b : Int} (h : a = b) : Ending.returned (.int k a) = .returned (.int k b) := by rw [h]
def noneE (fs : Fs) (n : Nm) : Int := match getF n fs with | some _ => 0 | none => 5
/-- the pointer that a map has for a name -/
def ptrOf (fs : Fs) (g : Nm → Nat) (n : Nm) : Option Addr := (getF n fs).map fun _ => ⟨g n, 0, none⟩
theorem ptrOf_some {fs : Fs} {g : Nm → Nat} {n : Nm} {f : Fil} (h : getF n fs = some f) : ptrOf fs g n = some ⟨g n, 0, none⟩ := by simp [ptrOf, h]
theorem ptrOf_none {fs : Fs} {g : Nm → Nat} {n : Nm} (h : getF n fs = none) : ptrOf fs g n = none := by simp [ptrOf, h]
theorem lookup_run {w : World} {mm : Option Nat} {fs : Fs} {g : Nm → Nat} (hM : MapAt w mm fs g) (s : ByteArray) (hs : s.size ≤ 9223372036854775807) :
    (Instr.lookup TM (.map mm) (.string s) false).run Try.prog w = .ok (.pointer (ptrOf fs g s.data.toList)) w := by
  have hk := key_of (s := s) (by unfold maxLen; omega)
  cases mm with
  | none =>
    have hfs : fs = [] := hM
    subst hfs
    exact Maps.look_nil false str_law und_map (zero_ptr w) hk
  | some b =>
    obtain ⟨v, ps, hrun, hv⟩ := World.ownsMap.lookup (zd := .nil) (zp := []) hM str_law und_map (zero_ptr w) rfl hk
    rw [hrun]
    rw [dat_at] at hv
    cases hg : getF s.data.toList fs with
    | none => rw [hg] at hv; rw [refPtr_nil hv, ptrOf_none hg]
    | some f => rw [hg] at hv; rw [refPtr_inv hv, ptrOf_some hg]
section
variable {w : World} {p r u dd f : Nat} {m : Option Nat} {o : Bool}
set_option maxHeartbeats 1000000 in
theorem look_any (h : Row w p TD (dcells r u m dd o f)) (nb : Nat) (ns : List ByteArray) (rest : List Value) (hn : Row w nb 9 (ns.map Value.string ++ rest)) (c : Nat) (hc : ns.length ≤ c) (hl : ns.length ≤ 1000) (hs : ∀ s ∈ ns, s.size ≤ 9223372036854775807) :
    Calls Try.prog 35 #[.pointer (some ⟨p, 0, none⟩), .slice (some ⟨nb, 0, none⟩) ns.length c] w fun e w' => e = .returned (.int .i64 (lookE o ns)) ∧ w = w' := by
  obtain ⟨h0, h1, h2, h3, h4, h5⟩ := drow h
  have hcell : ∀ k (hk : k < ns.length), w.cell? ⟨nb, k, none⟩ = some (.string ns[k]) := by
    intro k hk
    rw [hn.cell, List.getElem?_append_left (by simpa using hk), List.getElem?_map, List.getElem?_eq_getElem hk]; rfl
  have HC := Lib.hid hcell; clear hcell
  have HS := Lib.hid hs; clear hs
  cases o with
  | true =>
    go_enter Try.func35, Try.ntmps35
    go_wp2
    go_ret
    exact ⟨rfl, rfl⟩
  | false =>
    go_enter Try.func35, Try.ntmps35
    go_wp2
    go_loop [6, 15] (fun _ i => ∃ k : Nat, k ≤ ns.length ∧ i = .int .i64 k ∧ (ns.take k).all okName = true) (fun _ i => ns.length - (intOf i).toNat)
    case atStart => exact ⟨0, Nat.zero_le _, rfl, rfl⟩
    case round =>
      obtain ⟨k, hk, rfl, hall⟩ := hrel
      have HA := Lib.hid hall; clear hall
      by_cases hlt : k < ns.length
      · have hck := HC.out k hlt
        have hsk := HS.out ns[k] (List.getElem_mem hlt)
        obtain ⟨s, hs⟩ : ∃ s, s = ns[k] := ⟨_, rfl⟩
        rw [← hs] at hck hsk
        have HK := Lib.hid hs; clear hs
        by_cases hb : s.size < 1
        · go_wp2
          go_ret
          exact ⟨ret_int (lookE_bad hlt (by rw [← HK.out]; simp [okName]; omega)).symm, rfl⟩
        · by_cases hb2 : 128 < s.size
          · go_wp2
            go_ret
            exact ⟨ret_int (lookE_bad hlt (by rw [← HK.out]; simp [okName]; omega)).symm, rfl⟩
          · go_wp2
            go_round
            case rel => exact ⟨k + 1, by omega, by go_num, all_next hlt (by rw [← HK.out]; simp [okName]; omega) HA.out⟩
            case measure => simp [intOf]; omega
      · go_wp2
        go_ret
        have ha := HA.out
        rw [List.take_of_length_le (by omega)] at ha
        exact ⟨ret_int (by simp [lookE, ha]), rfl⟩
set_option maxHeartbeats 1000000 in
theorem find_bad (h : Row w p TD (dcells r u m dd o f)) (nb : Nat) (ns : List ByteArray) (rest : List Value) (hn : Row w nb 9 (ns.map Value.string ++ rest)) (c : Nat) (hc : ns.length ≤ c) (hl : ns.length ≤ 1000) (hs : ∀ s ∈ ns, s.size ≤ 9223372036854775807) (hb : ¬ lookE o ns = 0) :
    Calls Try.prog 41 #[.pointer (some ⟨p, 0, none⟩), .slice (some ⟨nb, 0, none⟩) ns.length c] w fun e w' => e = .returned (.tuple #[.pointer none, .int .i64 (lookE o ns)]) ∧ w = w' := by
  have hb' : (lookE o ns == 0) = false := by simpa using hb
  have hb2 : (lookE o ns != 0) = true := by simpa using hb
  have H1 := Lib.hid hn; clear hn
  go_enter Try.func41, Try.ntmps41
  go_wp2_with (go_at_call 35; refine (look_any h nb ns rest H1.out c hc hl hs).mono ?_; rintro e w' ⟨rfl, rfl⟩)
  go_ret2
  exact ⟨rfl, rfl⟩
set_option maxHeartbeats 1000000 in
theorem find_ok (h : Row w p TD (dcells r u m dd o f)) {fs : Fs} {g : Nm → Nat} (hM : MapAt w m fs g) (nb : Nat) (s : ByteArray) (ns : List ByteArray) (rest : List Value) (hn : Row w nb 9 ((s :: ns).map Value.string ++ rest)) (c : Nat) (hc : (s :: ns).length ≤ c) (hl : (s :: ns).length ≤ 1000) (hs : ∀ x ∈ s :: ns, x.size ≤ 9223372036854775807) (hb : lookE o (s :: ns) = 0) :
    Calls Try.prog 41 #[.pointer (some ⟨p, 0, none⟩), .slice (some ⟨nb, 0, none⟩) (s :: ns).length c] w fun e w' => e = .returned (.tuple #[.pointer (ptrOf fs g s.data.toList), .int .i64 (noneE fs s.data.toList)]) ∧ ∃ k, w' = w.drewN k := by
  obtain ⟨h0, h1, h2, h3, h4, h5⟩ := drow h
  have hlk : ∀ k, (Instr.lookup TM (.map m) (.string s) false).run Try.prog (w.drewN k) = .ok (.pointer (ptrOf fs g s.data.toList)) (w.drewN k) := fun k => lookup_run (w := w.drewN k) (by cases m <;> exact hM) s (hs s (by simp))
  have hc0 : w.cell? ⟨nb, 0, none⟩ = some (.string s) := hn.cell 0
  have H1 := Lib.hid hn; clear hn
  have H2 := Lib.hid hs; clear hs
  go_enter Try.func41, Try.ntmps41
  go_wp2_with (go_at_call 35; refine (look_any h nb (s :: ns) rest H1.out c hc hl H2.out).mono ?_; rintro e w' ⟨rfl, rfl⟩)
  go_quiet (fail)
  cases hg : getF s.data.toList fs with
  | none =>
    rw [ptrOf_none hg]
    go_wp2
    go_ret2
    exact ⟨by rw [ptrOf_none hg, show noneE fs s.data.toList = 5 by simp [noneE, hg]]; rfl, _, rfl⟩
  | some f1 =>
    rw [ptrOf_some hg]
    go_wp2
    go_ret2
    exact ⟨by rw [ptrOf_some hg, show noneE fs s.data.toList = 0 by simp [noneE, hg]]; rfl, _, rfl⟩
end
end Go.Proofs.Ytiagoaaldpajmaa
