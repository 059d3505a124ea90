/- Boxes that a call makes for its parameters. -/
import Derived.Test.YtgfdpilgonpokaaAppend1
namespace Go.Proofs.Ytgfdpilgonpokaa
open Go.ChangeShapes Go.WideShapes Go.ChangeAt Go.RowKit Go.BigFrame Go.Maps Go.Sort
set_option linter.unusedVariables false
section
variable (w : World)
theorem boxes2 (t1 t2 : TypeId) (l1 l2 : List Value) :
    Row ((w.alloc (.cells l1.toArray t1)).alloc (.cells l2.toArray t2)) w.heap.size t1 l1 ∧ Row ((w.alloc (.cells l1.toArray t1)).alloc (.cells l2.toArray t2)) (w.heap.size + 1) t2 l2 ∧
    Touch (fun _ => False) w ((w.alloc (.cells l1.toArray t1)).alloc (.cells l2.toArray t2)) ∧ ((w.alloc (.cells l1.toArray t1)).alloc (.cells l2.toArray t2)).heap.size = w.heap.size + 1 + 1 := by
  refine ⟨(Row.made w t1 l1).alloc _, ?_, ((Touch.refl _ _).alloc _).alloc _, by simp⟩
  have := Row.made (w.alloc (.cells l1.toArray t1)) t2 l2
  simpa using this
theorem boxes3 (t1 t2 t3 : TypeId) (l1 l2 l3 : List Value) :
    Row (((w.alloc (.cells l1.toArray t1)).alloc (.cells l2.toArray t2)).alloc (.cells l3.toArray t3)) w.heap.size t1 l1 ∧ Row (((w.alloc (.cells l1.toArray t1)).alloc (.cells l2.toArray t2)).alloc (.cells l3.toArray t3)) (w.heap.size + 1) t2 l2 ∧
    Row (((w.alloc (.cells l1.toArray t1)).alloc (.cells l2.toArray t2)).alloc (.cells l3.toArray t3)) (w.heap.size + 1 + 1) t3 l3 ∧
    Touch (fun _ => False) w (((w.alloc (.cells l1.toArray t1)).alloc (.cells l2.toArray t2)).alloc (.cells l3.toArray t3)) ∧ (((w.alloc (.cells l1.toArray t1)).alloc (.cells l2.toArray t2)).alloc (.cells l3.toArray t3)).heap.size = w.heap.size + 1 + 1 + 1 := by
  obtain ⟨h1, h2, h3, h4⟩ := boxes2 w t1 t2 l1 l2
  refine ⟨h1.alloc _, h2.alloc _, ?_, h3.alloc _, by simp⟩
  have := Row.made ((w.alloc (.cells l1.toArray t1)).alloc (.cells l2.toArray t2)) t3 l3
  simpa using this
theorem boxes4 (t1 t2 t3 t4 : TypeId) (l1 l2 l3 l4 : List Value) :
    Row ((((w.alloc (.cells l1.toArray t1)).alloc (.cells l2.toArray t2)).alloc (.cells l3.toArray t3)).alloc (.cells l4.toArray t4)) w.heap.size t1 l1 ∧ Row ((((w.alloc (.cells l1.toArray t1)).alloc (.cells l2.toArray t2)).alloc (.cells l3.toArray t3)).alloc (.cells l4.toArray t4)) (w.heap.size + 1) t2 l2 ∧
    Row ((((w.alloc (.cells l1.toArray t1)).alloc (.cells l2.toArray t2)).alloc (.cells l3.toArray t3)).alloc (.cells l4.toArray t4)) (w.heap.size + 1 + 1) t3 l3 ∧ Row ((((w.alloc (.cells l1.toArray t1)).alloc (.cells l2.toArray t2)).alloc (.cells l3.toArray t3)).alloc (.cells l4.toArray t4)) (w.heap.size + 1 + 1 + 1) t4 l4 ∧
    Touch (fun _ => False) w ((((w.alloc (.cells l1.toArray t1)).alloc (.cells l2.toArray t2)).alloc (.cells l3.toArray t3)).alloc (.cells l4.toArray t4)) ∧ ((((w.alloc (.cells l1.toArray t1)).alloc (.cells l2.toArray t2)).alloc (.cells l3.toArray t3)).alloc (.cells l4.toArray t4)).heap.size = w.heap.size + 1 + 1 + 1 + 1 := by
  obtain ⟨h1, h2, h3, h4, h5⟩ := boxes3 w t1 t2 t3 l1 l2 l3
  refine ⟨h1.alloc _, h2.alloc _, h3.alloc _, ?_, h4.alloc _, by simp⟩
  have := Row.made (((w.alloc (.cells l1.toArray t1)).alloc (.cells l2.toArray t2)).alloc (.cells l3.toArray t3)) t4 l4
  simpa using this
end
section
variable {w w' : World} {F : Nat → Prop} {g : Nm → Nat} {v : Nm → Value} {p r u dd f : Nat} {m : Option Nat} {o : Bool} {d : DM} {fs : Fs}
theorem length_quiet (h : Row w p TD (dcells r u m dd o f)) (hM : MapAt w m fs g) (hF : FilesAt w F fs g v) (s : ByteArray) (hs : s.size ≤ 9223372036854775807) (k : Nat) :
    Calls Try.prog 36 #[.pointer (some ⟨p, 0, none⟩), .string s] (w.drewN k) fun e w' => e = .returned (.int .i64 (lenF s.data.toList fs : Nat)) ∧ ∃ j, w' = w.drewN j :=
  Calls.quiet_of_same ((length_any (w := w.drewN k) (h.drewN k) (hM.touch ((Touch.refl (fun _ => False) w).drewN k) (by simp)) (hF.touch ((Touch.refl (fun _ => False) w).drewN k) (by simp)) s hs).mono fun _ _ ⟨he, hm⟩ => ⟨he, hm.symm⟩)
theorem DiskAt.still (h : DiskAt w p d F m g v) (ht : Touch (fun _ => False) w w') : DiskAt w' p d F m g v := h.touch ht (by simp)
theorem DiskAt.mono {F' : Nat → Prop} (h : DiskAt w p d F m g v) (hF : ∀ k, F k → F' k) : DiskAt w p d F' m g v :=
  ⟨h.row, h.map, h.files.mono hF, hF _ h.memp, fun b hb => hF _ (h.memm b hb), h.ok, h.used, h.room, h.few, h.fuse⟩
end
end Go.Proofs.Ytgfdpilgonpokaa
