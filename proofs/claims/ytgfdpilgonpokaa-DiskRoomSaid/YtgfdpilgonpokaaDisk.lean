/- A disk in memory. -/
import Derived.Test.YtgfdpilgonpokaaFs
import Derived.Test.YtgfdpilgonpokaaRows
import Derived.Test.YtgfdpilgonpokaaBytes
namespace Go.Proofs.Ytgfdpilgonpokaa
open Go.RowKit Go.Maps

/-- what lies outside F is as it was -/
structure Touch (F : Nat → Prop) (w w' : World) : Prop where
  os : w'.os = w.os
  tape : w'.tape = w.tape
  output : w'.output = w.output
  size : w.heap.size ≤ w'.heap.size
  block : ∀ k, k < w.heap.size → ¬ F k → w'.heap[k]? = w.heap[k]?
section
variable {F F' : Nat → Prop} {w w' w'' : World}
theorem Touch.refl (F : Nat → Prop) (w : World) : Touch F w w := ⟨rfl, rfl, rfl, Nat.le_refl _, fun _ _ _ => rfl⟩
theorem Touch.trans' (h : Touch F w w') (k : Touch F' w' w'') (hF : ∀ i, F' i → F i ∨ w.heap.size ≤ i) : Touch F w w'' :=
  ⟨k.os.trans h.os, k.tape.trans h.tape, k.output.trans h.output, Nat.le_trans h.size k.size, fun i hi hn =>
    (k.block i (Nat.lt_of_lt_of_le hi h.size) (fun e => (hF i e).elim hn (by omega))).trans (h.block i hi hn)⟩
theorem Touch.trans (h : Touch F w w') (k : Touch F w' w'') : Touch F w w'' := h.trans' k fun _ h => .inl h
theorem Touch.mono (h : Touch F w w') (hF : ∀ i, F i → F' i) : Touch F' w w' := ⟨h.os, h.tape, h.output, h.size, fun i hi hn => h.block i hi fun e => hn (hF i e)⟩
theorem Touch.drew (h : Touch F w w') : Touch F w w'.drew := ⟨h.os, h.tape, h.output, h.size, h.block⟩
theorem Touch.drewN (h : Touch F w w') (n : Nat) : Touch F w (w'.drewN n) := ⟨h.os, h.tape, h.output, h.size, h.block⟩
theorem Touch.setCell (h : Touch F w w') {p : Addr} (hp : F p.block ∨ w.heap.size ≤ p.block) (u : Value) : Touch F w (w'.setCell p u) :=
  ⟨h.os, h.tape, h.output, by simpa using h.size, fun i hi hn => (Below.heap_setCell w' p u i (fun e => by subst e; exact hp.elim hn (by omega))).trans (h.block i hi hn)⟩
theorem Touch.alloc (h : Touch F w w') (o : Obj) : Touch F w (w'.alloc o) :=
  ⟨h.os, h.tape, h.output, by simp; have := h.size; omega, fun i hi hn => (Below.heap_alloc w' o i (Nat.lt_of_lt_of_le hi h.size)).trans (h.block i hi hn)⟩
theorem Touch.of_grown {row : Option Nat} (h : w.grownBy w' row) (hF : ∀ k, row = some k → F k) : Touch F w w' :=
  ⟨h.os, h.tape, h.output, h.size, fun i hi hn => h.block i hi fun e => hn (hF i e.symm)⟩
theorem Touch.of_below (h : Below w.heap.size w w') : Touch F w w' := ⟨h.os, h.tape, h.output, h.size, fun i hi _ => h.block i hi⟩
theorem Touch.below (h : Touch F w w') {B : Nat} (hF : ∀ i, F i → B ≤ i) (hB : B ≤ w.heap.size) : Below B w w' := ⟨h.os, h.tape, h.output, h.size, fun i hi => h.block i (by omega) fun e => by have := hF i e; omega⟩
end
theorem Row.touch {F : Nat → Prop} {w w' : World} {g : Nat} {t : TypeId} {l : List Value} (h : Row w g t l) (ht : Touch F w w') (hg : ¬ F g) : Row w' g t l := (ht.block g h.lt hg).trans h
theorem ownsMap_touch {F : Nat → Prop} {w w' : World} {P : Program} {k : TypeId} {R : Value → Option (DataW Unit × List MemPlace)} {b n : Nat} {D : DataW Unit} (h : w.ownsMap P k R b n D) (ht : Touch F w w') (hb : ¬ F b) : w'.ownsMap P k R b n D := by
  have hlt := h.lt
  obtain ⟨es, clock, hh, F, hs, hD⟩ := h
  exact ⟨es, clock, (ht.block b hlt hb).trans hh, F, hs, hD⟩
theorem ownsMap_tight {w : World} {P : Program} {k : TypeId} {R : Value → Option (DataW Unit × List MemPlace)} {b n : Nat} {D : DataW Unit} (h : w.ownsMap P k R b n D) : w.ownsMap P k R b (Maps.size D) D := by
  obtain ⟨es, clock, hh, F, hs, rfl⟩ := h
  exact ⟨es, clock, hh, F, by simp [Maps.size, length_sorted], rfl⟩
theorem ownsRow_touch {F : Nat → Prop} {w w' : World} {base : Nat} {e : TypeId} {size : Nat} {v : Value} {n : Nat} {xs : List Value} (h : w.ownsRow base e size v n xs) (ht : Touch F w w') (hv : ∀ k, v.ownBlock = some k → ¬ F k) : w'.ownsRow base e size v n xs := by
  have hlt := h.lt
  obtain ⟨hlen, h | ⟨g, cap, cur, rfl, hg, hh, h1, h2, h3, h4⟩⟩ := h
  · exact ⟨hlen, .inl h⟩
  · exact ⟨hlen, .inr ⟨g, cap, cur, rfl, hg, (ht.block g (hlt g rfl).2 (hv g rfl)).trans hh, h1, h2, h3, h4⟩⟩

/-- how a pointer to a block reads -/
def refPtr : Value → Option (DataW Unit × List MemPlace)
  | .pointer (some ⟨b, 0, none⟩) => some (.lit (.int .i64 (b : Nat)), [])
  | .pointer none => some (.nil, [])
  | _ => none
theorem refPtr_inv {v : Value} {b : Nat} {ps : List MemPlace} (h : refPtr v = some (.lit (.int .i64 (b : Nat)), ps)) : v = .pointer (some ⟨b, 0, none⟩) := by
  unfold refPtr at h
  split at h
  · rename_i b'
    simp at h
    obtain rfl : b' = b := by omega
    rfl
  · simp at h
  · cases h
theorem refPtr_nil {v : Value} {ps : List MemPlace} (h : refPtr v = some (.nil, ps)) : v = .pointer none := by
  unfold refPtr at h
  split at h
  · simp at h
  · rfl
  · cases h

abbrev TD : TypeId := 65
abbrev TF : TypeId := 73
abbrev TM : TypeId := 57
theorem und_map : Try.prog.underlying 57 = some (.map 9 70) := by kernel_rfl
theorem und_str : Try.prog.underlying 9 = some .string := by kernel_rfl
theorem str_law : Maps.Keyed Try.prog 9 := string_keyed und_str
theorem zero_ptr (w : World) : (zeroValue 70).run Try.prog w = .ok (.pointer none) w := by kernel_rfl
theorem key_of {s : ByteArray} (h : s.size ≤ maxLen) : keyOf Try.prog 9 (.string s) = some (.string s.data.toList) := WideMaps.keyOf_string_mk und_str h

structure DM where
  room : Nat
  fs : Fs
  deeds : Nat
  off : Bool
  fuse : Nat

/-- a file in memory -/
structure FileAt (w : World) (b : Nat) (v : Value) (f : Fil) : Prop where
  row : Row w b TF [v, .int .i64 (f.sure : Nat), .bool f.made]
  own : w.ownsRow 0 5 1 v f.b.length (u8s f.b)
  lt : ∀ x ∈ f.b, x < 256
def MapAt (w : World) : Option Nat → Fs → (Nm → Nat) → Prop
  | none, fs, _ => fs = []
  | some b, fs, g => w.ownsMap Try.prog 9 refPtr b fs.length (dat fs g)
/-- the files of a map, in memory, each by itself, inside F -/
structure FilesAt (w : World) (F : Nat → Prop) (fs : Fs) (g : Nm → Nat) (v : Nm → Value) : Prop where
  at_ : ∀ n f, getF n fs = some f → FileAt w (g n) (v n) f
  mem : ∀ n f, getF n fs = some f → F (g n)
  memv : ∀ n f, getF n fs = some f → ∀ k, (v n).ownBlock = some k → F k
  apart : ∀ n m f h, getF n fs = some f → getF m fs = some h → n ≠ m → g n ≠ g m
  apartv : ∀ n m f h, getF n fs = some f → getF m fs = some h → n ≠ m → ∀ k, (v n).ownBlock = some k → (v m).ownBlock ≠ some k
structure OkFs (fs : Fs) : Prop where
  sort : SortF fs
  name : ∀ n f, getF n fs = some f → 1 ≤ n.length ∧ n.length ≤ 128
  sure : ∀ n f, getF n fs = some f → f.sure ≤ f.b.length
  len : ∀ n f, getF n fs = some f → f.b.length ≤ 8388608
abbrev dcells (room used : Nat) (mm : Option Nat) (deeds : Nat) (off : Bool) (fuse : Nat) : List Value :=
  [.int .i64 (room : Nat), .int .i64 (used : Nat), .map mm, .int .i64 (deeds : Nat), .bool off, .int .u64 (fuse : Nat)]
structure DiskAt (w : World) (p : Nat) (d : DM) (F : Nat → Prop) (mm : Option Nat) (g : Nm → Nat) (v : Nm → Value) : Prop where
  row : Row w p TD (dcells d.room (usedF d.fs) mm d.deeds d.off d.fuse)
  map : MapAt w mm d.fs g
  files : FilesAt w F d.fs g v
  memp : F p
  memm : ∀ b, mm = some b → F b
  ok : OkFs d.fs
  used : usedF d.fs ≤ d.room
  room : d.room ≤ 9223372036854775807
  few : d.fs.length ≤ d.deeds
  fuse : d.fuse ≤ 9223372036854775808
def IsDisk (w : World) (p : Nat) (d : DM) (F : Nat → Prop) : Prop := ∃ mm g v, DiskAt w p d F mm g v

section
variable {F F' : Nat → Prop} {w w' : World} {b : Nat} {v : Value} {f : Fil}
theorem FileAt.touch (h : FileAt w b v f) (ht : Touch F w w') (hb : ¬ F b) (hv : ∀ k, v.ownBlock = some k → ¬ F k) : FileAt w' b v f := ⟨h.row.touch ht hb, ownsRow_touch h.own ht hv, h.lt⟩
theorem MapAt.touch {mm : Option Nat} {fs : Fs} {g : Nm → Nat} (h : MapAt w mm fs g) (ht : Touch F w w') (hb : ∀ b, mm = some b → ¬ F b) : MapAt w' mm fs g := by
  cases mm with
  | none => exact h
  | some b => exact ownsMap_touch h ht (hb b rfl)
theorem FilesAt.touch {fs : Fs} {g : Nm → Nat} {v : Nm → Value} (h : FilesAt w F fs g v) (ht : Touch F' w w') (hF : ∀ k, F k → ¬ F' k) : FilesAt w' F fs g v :=
  ⟨fun n f hf => (h.at_ n f hf).touch ht (hF _ (h.mem n f hf)) (fun k hk => hF _ (h.memv n f hf k hk)), h.mem, h.memv, h.apart, h.apartv⟩
theorem DiskAt.touch {p : Nat} {d : DM} {mm : Option Nat} {g : Nm → Nat} {v : Nm → Value} (h : DiskAt w p d F mm g v) (ht : Touch F' w w') (hF : ∀ k, F k → ¬ F' k) : DiskAt w' p d F mm g v :=
  ⟨h.row.touch ht (hF _ h.memp), h.map.touch ht (fun b hb => hF _ (h.memm b hb)), h.files.touch ht hF, h.memp, h.memm, h.ok, h.used, h.room, h.few, h.fuse⟩
end
end Go.Proofs.Ytgfdpilgonpokaa
