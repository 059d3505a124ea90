/- The types of the arguments want no stand-in: closed facts for the tied cards. -/
import Derived.Test.YtocdganglokplaaDoorPcBitA
import Derived.Test.YtocdganglokplaaDoorCards
import Derived.Test.YtocdganglokplaaDoorTie
import Derived.SevenTiedAt
namespace Go.Proofs.YtocdganglokplaaDoor
theorem si_graph : Tryd.prog.wantsStandIn 23 = false := by kernel_rfl
theorem si_int : Tryd.prog.wantsStandIn 3 = false := by kernel_rfl
theorem si_u8 : Tryd.prog.wantsStandIn 5 = false := by kernel_rfl
end Go.Proofs.YtocdganglokplaaDoor
