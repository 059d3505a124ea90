/- A time that came in. -/
import Derived.Test.YtdpadkellpkppaaStVal
import Derived.Laws.IdiomArrays
import Derived.OpenShut
namespace Go.Proofs.Ytdpadkellpkppaa
open Go.ChangeShapes Go.WideShapes Go.ChangeAt Go.RowKit Go.BigFrame
set_option linter.unusedVariables false
set_option maxRecDepth 100000
theorem cells_int : Try.prog.cellsOf 3 = 1 := by kernel_rfl
theorem cells_arr : Try.prog.cellsOf 22 = 3 := by kernel_rfl
theorem cells_stamp : Try.prog.cellsOf 26 = 5 := by kernel_rfl
theorem open_stamp {H : Type} {enc : TypeId × Value → H} {W : World} {base : Nat} {v : Value} {d : DataW H} {p : List MemPlace}
    (hok : Value.okWide Try.prog W .any base 26 v) (h : DataW.Trod enc Try.prog W 0 (fun _ => true) true 26 v d p) : ∃ t : St, v = t.val := by
  obtain ⟨cs, rfl, hsz⟩ := okWide_struct Try.underlying26 hok
  obtain ⟨l⟩ := cs
  match l, hsz.trans cells_stamp with
  | [c0, c1, c2, c3, c4], _ =>
    obtain ⟨fuel, hf⟩ := h
    obtain ⟨xs, n, _, hx, _, hlen, hg⟩ := DataW.trod_struct Try.underlying26 hf
    match xs, hlen with
    | [y0, y1, y2], _ =>
      have h0 : DataW.trod enc Try.prog W 0 (fun _ => true) true n 3 [c0] = some y0 := hg 0 _ rfl
      have h1 : DataW.trod enc Try.prog W 0 (fun _ => true) true n 3 [c1] = some y1 := hg 1 _ rfl
      have h2 : DataW.trod enc Try.prog W 0 (fun _ => true) true n 22 [c2, c3, c4] = some y2 := hg 2 _ rfl
      obtain ⟨z0, z1, z2, m, -, k0, k1, k2⟩ := trod_array3 Try.underlying22 cells_int h2
      obtain ⟨n0, e0, -, -⟩ := DataW.trod_int Try.underlying3 h0
      obtain ⟨n1, e1, -, -⟩ := DataW.trod_int Try.underlying3 h1
      obtain ⟨n2, e2, -, -⟩ := DataW.trod_int Try.underlying3 k0
      obtain ⟨n3, e3, -, -⟩ := DataW.trod_int Try.underlying3 k1
      obtain ⟨n4, e4, -, -⟩ := DataW.trod_int Try.underlying3 k2
      cases e0; cases e1; cases e2; cases e3; cases e4
      exact ⟨⟨n0, n1, n2, n3, n4⟩, rfl⟩
end Go.Proofs.Ytdpadkellpkppaa
