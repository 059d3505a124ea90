import Derived.Lib.Hide
import GoSem.Claim
namespace Go.Proofs.YtonelpnhoiajgaaGreatDoor
theorem Hd {p : Prop} (h : p) : RowKit.Hid p := h
end Go.Proofs.YtonelpnhoiajgaaGreatDoor
