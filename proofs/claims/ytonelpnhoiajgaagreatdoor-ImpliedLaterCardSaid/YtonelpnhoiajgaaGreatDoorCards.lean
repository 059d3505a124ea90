/-
  DERIVED. GIVEN WITH THE SEED: THE CARDS: each row of YtonelpnhoiajgaaGreatDoorRows.lean that lists a variable, with what it lists TIED to the program's text (the seventh form; the later family's looks); each row that meets fmt, with fmt's text TOLD by the authors' own Lean function (tested against real Go, not proved from fmt's source: count such statements apart). THE CARD IS WHAT COUNTS. Prove the row's statement (the work); the ties are given (YtonelpnhoiajgaaGreatDoorTie.lean); close each card by the builder's one call (the guide's Derived/Test/ToyasCard.lean, 'card_holds'). Laid BY PROGRAM, IN A SANDBOX (cutbox-door.mjs). By AI agents, Wed Nov 11 2026. No macro, syntax, notation, axiom, sorry.
-/
import Derived.Test.YtonelpnhoiajgaaGreatDoorRows
import GoSem.ClaimSeven
namespace Go.Proofs.YtonelpnhoiajgaaGreatDoor
namespace Rows

/-- THE TIED CARD OF 'tailracelaw15.ImpliedFrontier'. -/
def impliedFrontierCard : Claim7 := { stood := { row := impliedFrontierRow, standIns := [], harness := (true, "72d86c9a6c7968268d5e4c40fd2463659ff791c0e996885055889867c79c9cc4"), looks := false }, kinds := [], alts := [], laidByText := true, laidKinds := [.data], laidTests := true, laidLooks := .later }
def ImpliedFrontierCardSaid : Prop := Claim7.holds Tryz.pinned (.plain (OpenSpec.ofChange impliedFrontierSpec)) impliedFrontierCard

/-- THE TIED CARD OF 'tailracelaw15.ImpliedRight'. -/
def impliedRightCard : Claim7 := { stood := { row := impliedRightRow, standIns := [], harness := (true, "72d86c9a6c7968268d5e4c40fd2463659ff791c0e996885055889867c79c9cc4"), looks := false }, kinds := [], alts := [], laidByText := true, laidKinds := [.data], laidTests := true, laidLooks := .later }
def ImpliedRightCardSaid : Prop := Claim7.holds Tryz.pinned (.plain (OpenSpec.ofChange impliedRightSpec)) impliedRightCard

/-- THE TIED CARD OF 'tailracelaw15.ImpliedGoes'. -/
def impliedGoesCard : Claim7 := { stood := { row := impliedGoesRow, standIns := [], harness := (true, "72d86c9a6c7968268d5e4c40fd2463659ff791c0e996885055889867c79c9cc4"), looks := false }, kinds := [], alts := [], laidByText := true, laidKinds := [.data], laidTests := true, laidLooks := .later }
def ImpliedGoesCardSaid : Prop := Claim7.holds Tryz.pinned (.plain (OpenSpec.ofChange impliedGoesSpec)) impliedGoesCard

/-- THE TIED CARD OF 'tailracelaw15.ImpliedRows'. -/
def impliedRowsCard : Claim7 := { stood := { row := impliedRowsRow, standIns := [], harness := (true, "72d86c9a6c7968268d5e4c40fd2463659ff791c0e996885055889867c79c9cc4"), looks := false }, kinds := [], alts := [], laidByText := true, laidKinds := [.data], laidTests := true, laidLooks := .later }
def ImpliedRowsCardSaid : Prop := Claim7.holds Tryz.pinned (.plain (OpenSpec.ofChange impliedRowsSpec)) impliedRowsCard

/-- THE TIED CARD OF 'tailracelaw15.ImpliedLater'. -/
def impliedLaterCard : Claim7 := { stood := { row := impliedLaterRow, standIns := [], harness := (true, "72d86c9a6c7968268d5e4c40fd2463659ff791c0e996885055889867c79c9cc4"), looks := false }, kinds := [], alts := [], laidByText := true, laidKinds := [.data], laidTests := true, laidLooks := .later }
def ImpliedLaterCardSaid : Prop := Claim7.holds Tryz.pinned (.plain (OpenSpec.ofChange impliedLaterSpec)) impliedLaterCard

/-- THE TIED CARD OF 'tailracelaw15.ImpliedKnown'. -/
def impliedKnownCard : Claim7 := { stood := { row := impliedKnownRow, standIns := [], harness := (true, "72d86c9a6c7968268d5e4c40fd2463659ff791c0e996885055889867c79c9cc4"), looks := false }, kinds := [], alts := [], laidByText := true, laidKinds := [.data], laidTests := true, laidLooks := .later }
def ImpliedKnownCardSaid : Prop := Claim7.holds Tryz.pinned (.plain (OpenSpec.ofChange impliedKnownSpec)) impliedKnownCard

/-- THE TIED CARD OF 'tailracelaw11.PathsWays'. -/
def pathsWaysCard : Claim7 := { stood := { row := pathsWaysRow, standIns := [], harness := (true, "72d86c9a6c7968268d5e4c40fd2463659ff791c0e996885055889867c79c9cc4"), looks := false }, kinds := [], alts := [], laidByText := true, laidKinds := [.data], laidTests := true, laidLooks := .later }
def PathsWaysCardSaid : Prop := Claim7.holds Tryz.pinned (.plain (OpenSpec.ofChange pathsWaysSpec)) pathsWaysCard

/-- THE TIED CARD OF 'tailracelaw11.PathsMore'. -/
def pathsMoreCard : Claim7 := { stood := { row := pathsMoreRow, standIns := [], harness := (true, "72d86c9a6c7968268d5e4c40fd2463659ff791c0e996885055889867c79c9cc4"), looks := false }, kinds := [], alts := [], laidByText := true, laidKinds := [.data], laidTests := true, laidLooks := .later }
def PathsMoreCardSaid : Prop := Claim7.holds Tryz.pinned (.plain (OpenSpec.ofChange pathsMoreSpec)) pathsMoreCard

/-- THE TIED CARD OF 'tailracelaw11.PathsKnown'. -/
def pathsKnownCard : Claim7 := { stood := { row := pathsKnownRow, standIns := [], harness := (true, "72d86c9a6c7968268d5e4c40fd2463659ff791c0e996885055889867c79c9cc4"), looks := false }, kinds := [], alts := [], laidByText := true, laidKinds := [.data], laidTests := true, laidLooks := .later }
def PathsKnownCardSaid : Prop := Claim7.holds Tryz.pinned (.plain (OpenSpec.ofChange pathsKnownSpec)) pathsKnownCard

/-- THE SECOND FORM's CARD OF 'tailracelaw15.ImpliedFrontier'. -/
def impliedFrontierUptoCard : Claim7 := { stood := { row := impliedFrontierUptoRow, standIns := [], harness := (true, "72d86c9a6c7968268d5e4c40fd2463659ff791c0e996885055889867c79c9cc4"), looks := false }, kinds := [], alts := [], laidByText := true, laidKinds := [.data], laidTests := true, laidLooks := .later }
def ImpliedFrontierUptoCardSaid : Prop := Claim7.holds Tryz.pinned (.plain (OpenSpec.upto impliedFrontierSpec)) impliedFrontierUptoCard

/-- THE SECOND FORM's CARD OF 'tailracelaw15.ImpliedRight'. -/
def impliedRightUptoCard : Claim7 := { stood := { row := impliedRightUptoRow, standIns := [], harness := (true, "72d86c9a6c7968268d5e4c40fd2463659ff791c0e996885055889867c79c9cc4"), looks := false }, kinds := [], alts := [], laidByText := true, laidKinds := [.data], laidTests := true, laidLooks := .later }
def ImpliedRightUptoCardSaid : Prop := Claim7.holds Tryz.pinned (.plain (OpenSpec.upto impliedRightSpec)) impliedRightUptoCard

/-- THE SECOND FORM's CARD OF 'tailracelaw15.ImpliedGoes'. -/
def impliedGoesUptoCard : Claim7 := { stood := { row := impliedGoesUptoRow, standIns := [], harness := (true, "72d86c9a6c7968268d5e4c40fd2463659ff791c0e996885055889867c79c9cc4"), looks := false }, kinds := [], alts := [], laidByText := true, laidKinds := [.data], laidTests := true, laidLooks := .later }
def ImpliedGoesUptoCardSaid : Prop := Claim7.holds Tryz.pinned (.plain (OpenSpec.upto impliedGoesSpec)) impliedGoesUptoCard

/-- THE SECOND FORM's CARD OF 'tailracelaw15.ImpliedRows'. -/
def impliedRowsUptoCard : Claim7 := { stood := { row := impliedRowsUptoRow, standIns := [], harness := (true, "72d86c9a6c7968268d5e4c40fd2463659ff791c0e996885055889867c79c9cc4"), looks := false }, kinds := [], alts := [], laidByText := true, laidKinds := [.data], laidTests := true, laidLooks := .later }
def ImpliedRowsUptoCardSaid : Prop := Claim7.holds Tryz.pinned (.plain (OpenSpec.upto impliedRowsSpec)) impliedRowsUptoCard

/-- THE SECOND FORM's CARD OF 'tailracelaw15.ImpliedLater'. -/
def impliedLaterUptoCard : Claim7 := { stood := { row := impliedLaterUptoRow, standIns := [], harness := (true, "72d86c9a6c7968268d5e4c40fd2463659ff791c0e996885055889867c79c9cc4"), looks := false }, kinds := [], alts := [], laidByText := true, laidKinds := [.data], laidTests := true, laidLooks := .later }
def ImpliedLaterUptoCardSaid : Prop := Claim7.holds Tryz.pinned (.plain (OpenSpec.upto impliedLaterSpec)) impliedLaterUptoCard

/-- THE SECOND FORM's CARD OF 'tailracelaw15.ImpliedKnown'. -/
def impliedKnownUptoCard : Claim7 := { stood := { row := impliedKnownUptoRow, standIns := [], harness := (true, "72d86c9a6c7968268d5e4c40fd2463659ff791c0e996885055889867c79c9cc4"), looks := false }, kinds := [], alts := [], laidByText := true, laidKinds := [.data], laidTests := true, laidLooks := .later }
def ImpliedKnownUptoCardSaid : Prop := Claim7.holds Tryz.pinned (.plain (OpenSpec.upto impliedKnownSpec)) impliedKnownUptoCard

/-- THE SECOND FORM's CARD OF 'tailracelaw11.PathsWays'. -/
def pathsWaysUptoCard : Claim7 := { stood := { row := pathsWaysUptoRow, standIns := [], harness := (true, "72d86c9a6c7968268d5e4c40fd2463659ff791c0e996885055889867c79c9cc4"), looks := false }, kinds := [], alts := [], laidByText := true, laidKinds := [.data], laidTests := true, laidLooks := .later }
def PathsWaysUptoCardSaid : Prop := Claim7.holds Tryz.pinned (.plain (OpenSpec.upto pathsWaysSpec)) pathsWaysUptoCard

/-- THE SECOND FORM's CARD OF 'tailracelaw11.PathsMore'. -/
def pathsMoreUptoCard : Claim7 := { stood := { row := pathsMoreUptoRow, standIns := [], harness := (true, "72d86c9a6c7968268d5e4c40fd2463659ff791c0e996885055889867c79c9cc4"), looks := false }, kinds := [], alts := [], laidByText := true, laidKinds := [.data], laidTests := true, laidLooks := .later }
def PathsMoreUptoCardSaid : Prop := Claim7.holds Tryz.pinned (.plain (OpenSpec.upto pathsMoreSpec)) pathsMoreUptoCard

/-- THE SECOND FORM's CARD OF 'tailracelaw11.PathsKnown'. -/
def pathsKnownUptoCard : Claim7 := { stood := { row := pathsKnownUptoRow, standIns := [], harness := (true, "72d86c9a6c7968268d5e4c40fd2463659ff791c0e996885055889867c79c9cc4"), looks := false }, kinds := [], alts := [], laidByText := true, laidKinds := [.data], laidTests := true, laidLooks := .later }
def PathsKnownUptoCardSaid : Prop := Claim7.holds Tryz.pinned (.plain (OpenSpec.upto pathsKnownSpec)) pathsKnownUptoCard
end Rows
end Go.Proofs.YtonelpnhoiajgaaGreatDoor
