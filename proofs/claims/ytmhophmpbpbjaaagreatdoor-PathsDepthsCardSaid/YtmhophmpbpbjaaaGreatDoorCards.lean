/-
  DERIVED. GIVEN WITH THE SEED: THE CARDS: each row of YtmhophmpbpbjaaaGreatDoorRows.lean that lists a variable, with what it lists TIED to the program's text (the seventh form; the later family's looks); each row that meets fmt, with fmt's text TOLD by the authors' own Lean function (tested against real Go, not proved from fmt's source: count such statements apart). THE CARD IS WHAT COUNTS. Prove the row's statement (the work); the ties are given (YtmhophmpbpbjaaaGreatDoorTie.lean); close each card by the builder's one call (the guide's Derived/Test/ToyasCard.lean, 'card_holds'). Laid BY PROGRAM, IN A SANDBOX (cutbox-door.mjs). By AI agents, Wed Nov 11 2026. No macro, syntax, notation, axiom, sorry.
-/
import Derived.Test.YtmhophmpbpbjaaaGreatDoorRows
import GoSem.ClaimSeven
namespace Go.Proofs.YtmhophmpbpbjaaaGreatDoor
namespace Rows

/-- THE TIED CARD OF 'tailracelaw11.PathsWays'. -/
def pathsWaysCard : Claim7 := { stood := { row := pathsWaysRow, standIns := [], harness := (true, "101d349d3de8ef2c5705c87f87d80b4ab552ce35b895c2c7ed37b64bccbb6113"), looks := false }, kinds := [], alts := [], laidByText := true, laidKinds := [.data], laidTests := true, laidLooks := .later }
def PathsWaysCardSaid : Prop := Claim7.holds Tryz.pinned (.plain (OpenSpec.ofChange pathsWaysSpec)) pathsWaysCard

/-- THE TIED CARD OF 'tailracelaw11.PathsComes'. -/
def pathsComesCard : Claim7 := { stood := { row := pathsComesRow, standIns := [], harness := (true, "101d349d3de8ef2c5705c87f87d80b4ab552ce35b895c2c7ed37b64bccbb6113"), looks := false }, kinds := [], alts := [], laidByText := true, laidKinds := [.data], laidTests := true, laidLooks := .later }
def PathsComesCardSaid : Prop := Claim7.holds Tryz.pinned (.plain (OpenSpec.ofChange pathsComesSpec)) pathsComesCard

/-- THE TIED CARD OF 'tailracelaw11.PathsLater'. -/
def pathsLaterCard : Claim7 := { stood := { row := pathsLaterRow, standIns := [], harness := (true, "101d349d3de8ef2c5705c87f87d80b4ab552ce35b895c2c7ed37b64bccbb6113"), looks := false }, kinds := [], alts := [], laidByText := true, laidKinds := [.data], laidTests := true, laidLooks := .later }
def PathsLaterCardSaid : Prop := Claim7.holds Tryz.pinned (.plain (OpenSpec.ofChange pathsLaterSpec)) pathsLaterCard

/-- THE TIED CARD OF 'tailracelaw11.PathsMore'. -/
def pathsMoreCard : Claim7 := { stood := { row := pathsMoreRow, standIns := [], harness := (true, "101d349d3de8ef2c5705c87f87d80b4ab552ce35b895c2c7ed37b64bccbb6113"), looks := false }, kinds := [], alts := [], laidByText := true, laidKinds := [.data], laidTests := true, laidLooks := .later }
def PathsMoreCardSaid : Prop := Claim7.holds Tryz.pinned (.plain (OpenSpec.ofChange pathsMoreSpec)) pathsMoreCard

/-- THE TIED CARD OF 'tailracelaw11.PathsDepths'. -/
def pathsDepthsCard : Claim7 := { stood := { row := pathsDepthsRow, standIns := [], harness := (true, "101d349d3de8ef2c5705c87f87d80b4ab552ce35b895c2c7ed37b64bccbb6113"), looks := false }, kinds := [], alts := [], laidByText := true, laidKinds := [.data], laidTests := true, laidLooks := .later }
def PathsDepthsCardSaid : Prop := Claim7.holds Tryz.pinned (.plain (OpenSpec.ofChange pathsDepthsSpec)) pathsDepthsCard

/-- THE TIED CARD OF 'tailracelaw11.PathsKnown'. -/
def pathsKnownCard : Claim7 := { stood := { row := pathsKnownRow, standIns := [], harness := (true, "101d349d3de8ef2c5705c87f87d80b4ab552ce35b895c2c7ed37b64bccbb6113"), looks := false }, kinds := [], alts := [], laidByText := true, laidKinds := [.data], laidTests := true, laidLooks := .later }
def PathsKnownCardSaid : Prop := Claim7.holds Tryz.pinned (.plain (OpenSpec.ofChange pathsKnownSpec)) pathsKnownCard

/-- THE SECOND FORM's CARD OF 'tailracelaw11.PathsWays'. -/
def pathsWaysUptoCard : Claim7 := { stood := { row := pathsWaysUptoRow, standIns := [], harness := (true, "101d349d3de8ef2c5705c87f87d80b4ab552ce35b895c2c7ed37b64bccbb6113"), looks := false }, kinds := [], alts := [], laidByText := true, laidKinds := [.data], laidTests := true, laidLooks := .later }
def PathsWaysUptoCardSaid : Prop := Claim7.holds Tryz.pinned (.plain (OpenSpec.upto pathsWaysSpec)) pathsWaysUptoCard

/-- THE SECOND FORM's CARD OF 'tailracelaw11.PathsComes'. -/
def pathsComesUptoCard : Claim7 := { stood := { row := pathsComesUptoRow, standIns := [], harness := (true, "101d349d3de8ef2c5705c87f87d80b4ab552ce35b895c2c7ed37b64bccbb6113"), looks := false }, kinds := [], alts := [], laidByText := true, laidKinds := [.data], laidTests := true, laidLooks := .later }
def PathsComesUptoCardSaid : Prop := Claim7.holds Tryz.pinned (.plain (OpenSpec.upto pathsComesSpec)) pathsComesUptoCard

/-- THE SECOND FORM's CARD OF 'tailracelaw11.PathsLater'. -/
def pathsLaterUptoCard : Claim7 := { stood := { row := pathsLaterUptoRow, standIns := [], harness := (true, "101d349d3de8ef2c5705c87f87d80b4ab552ce35b895c2c7ed37b64bccbb6113"), looks := false }, kinds := [], alts := [], laidByText := true, laidKinds := [.data], laidTests := true, laidLooks := .later }
def PathsLaterUptoCardSaid : Prop := Claim7.holds Tryz.pinned (.plain (OpenSpec.upto pathsLaterSpec)) pathsLaterUptoCard

/-- THE SECOND FORM's CARD OF 'tailracelaw11.PathsMore'. -/
def pathsMoreUptoCard : Claim7 := { stood := { row := pathsMoreUptoRow, standIns := [], harness := (true, "101d349d3de8ef2c5705c87f87d80b4ab552ce35b895c2c7ed37b64bccbb6113"), looks := false }, kinds := [], alts := [], laidByText := true, laidKinds := [.data], laidTests := true, laidLooks := .later }
def PathsMoreUptoCardSaid : Prop := Claim7.holds Tryz.pinned (.plain (OpenSpec.upto pathsMoreSpec)) pathsMoreUptoCard

/-- THE SECOND FORM's CARD OF 'tailracelaw11.PathsDepths'. -/
def pathsDepthsUptoCard : Claim7 := { stood := { row := pathsDepthsUptoRow, standIns := [], harness := (true, "101d349d3de8ef2c5705c87f87d80b4ab552ce35b895c2c7ed37b64bccbb6113"), looks := false }, kinds := [], alts := [], laidByText := true, laidKinds := [.data], laidTests := true, laidLooks := .later }
def PathsDepthsUptoCardSaid : Prop := Claim7.holds Tryz.pinned (.plain (OpenSpec.upto pathsDepthsSpec)) pathsDepthsUptoCard

/-- THE SECOND FORM's CARD OF 'tailracelaw11.PathsKnown'. -/
def pathsKnownUptoCard : Claim7 := { stood := { row := pathsKnownUptoRow, standIns := [], harness := (true, "101d349d3de8ef2c5705c87f87d80b4ab552ce35b895c2c7ed37b64bccbb6113"), looks := false }, kinds := [], alts := [], laidByText := true, laidKinds := [.data], laidTests := true, laidLooks := .later }
def PathsKnownUptoCardSaid : Prop := Claim7.holds Tryz.pinned (.plain (OpenSpec.upto pathsKnownSpec)) pathsKnownUptoCard
end Rows
end Go.Proofs.YtmhophmpbpbjaaaGreatDoor
