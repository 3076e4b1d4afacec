/-
  DERIVED. GIVEN WITH THE SEED: THE CARDS: each row of YtmkjalnlldpdcaaGreatDoorRows.lean that lists a variable, with what it lists TIED to the program's text (the seventh form; the later family's looks); each row that meets fmt, with fmt's text TOLD by the authors' own Lean function (tested against real Go, not proved from fmt's source: count such statements apart). THE CARD IS WHAT COUNTS. Prove the row's statement (the work); the ties are given (YtmkjalnlldpdcaaGreatDoorTie.lean); close each card by the builder's one call (the guide's Derived/Test/ToyasCard.lean, 'card_holds'). Laid BY PROGRAM, IN A SANDBOX (cutbox-door.mjs). By AI agents, Wed Nov 11 2026. No macro, syntax, notation, axiom, sorry.
-/
import Derived.Test.YtmkjalnlldpdcaaGreatDoorRows
import GoSem.ClaimSeven
namespace Go.Proofs.YtmkjalnlldpdcaaGreatDoor
namespace Rows

/-- THE TIED CARD OF 'touchstonelaw09.PrintTerms'. -/
def printTermsCard : Claim7 := { stood := { row := printTermsRow, standIns := [], harness := (true, "65a0dcf20f0cd373d49ecb7666bc27ee47d66fed1675093a79de9461c89cc7dd"), looks := true }, kinds := [], alts := [], laidByText := true, laidKinds := [.data, .data, .data, .sentinel, .sentinel, .data], laidTests := true, laidLooks := .later }
def PrintTermsCardSaid : Prop := Claim7.holds Tryz.pinned (.plain (OpenSpec.ofChange printTermsSpec)) printTermsCard

/-- THE TIED CARD OF 'touchstonelaw09.PrintModules'. -/
def printModulesCard : Claim7 := { stood := { row := printModulesRow, standIns := [], harness := (true, "65a0dcf20f0cd373d49ecb7666bc27ee47d66fed1675093a79de9461c89cc7dd"), looks := true }, kinds := [], alts := [], laidByText := true, laidKinds := [.data, .data, .data, .sentinel, .sentinel, .data], laidTests := true, laidLooks := .later }
def PrintModulesCardSaid : Prop := Claim7.holds Tryz.pinned (.plain (OpenSpec.ofChange printModulesSpec)) printModulesCard

/-- THE TIED CARD OF 'touchstonelaw09.PrintBack'. -/
def printBackCard : Claim7 := { stood := { row := printBackRow, standIns := [], harness := (true, "65a0dcf20f0cd373d49ecb7666bc27ee47d66fed1675093a79de9461c89cc7dd"), looks := true }, kinds := [], alts := [], laidByText := true, laidKinds := [.data, .data, .data, .sentinel, .sentinel, .data], laidTests := true, laidLooks := .later }
def PrintBackCardSaid : Prop := Claim7.holds Tryz.pinned (.plain (OpenSpec.ofChange printBackSpec)) printBackCard

/-- THE TIED CARD OF 'touchstonelaw09.PrintApart'. -/
def printApartCard : Claim7 := { stood := { row := printApartRow, standIns := [], harness := (true, "65a0dcf20f0cd373d49ecb7666bc27ee47d66fed1675093a79de9461c89cc7dd"), looks := true }, kinds := [], alts := [], laidByText := true, laidKinds := [.data, .data, .data, .sentinel, .sentinel, .data], laidTests := true, laidLooks := .later }
def PrintApartCardSaid : Prop := Claim7.holds Tryz.pinned (.plain (OpenSpec.ofChange printApartSpec)) printApartCard

/-- THE SECOND FORM's CARD OF 'touchstonelaw09.PrintTerms'. -/
def printTermsUptoCard : Claim7 := { stood := { row := printTermsUptoRow, standIns := [], harness := (true, "65a0dcf20f0cd373d49ecb7666bc27ee47d66fed1675093a79de9461c89cc7dd"), looks := true }, kinds := [], alts := [], laidByText := true, laidKinds := [.data, .data, .data, .sentinel, .sentinel, .data], laidTests := true, laidLooks := .later }
def PrintTermsUptoCardSaid : Prop := Claim7.holds Tryz.pinned (.plain (OpenSpec.upto printTermsSpec)) printTermsUptoCard

/-- THE SECOND FORM's CARD OF 'touchstonelaw09.PrintModules'. -/
def printModulesUptoCard : Claim7 := { stood := { row := printModulesUptoRow, standIns := [], harness := (true, "65a0dcf20f0cd373d49ecb7666bc27ee47d66fed1675093a79de9461c89cc7dd"), looks := true }, kinds := [], alts := [], laidByText := true, laidKinds := [.data, .data, .data, .sentinel, .sentinel, .data], laidTests := true, laidLooks := .later }
def PrintModulesUptoCardSaid : Prop := Claim7.holds Tryz.pinned (.plain (OpenSpec.upto printModulesSpec)) printModulesUptoCard

/-- THE SECOND FORM's CARD OF 'touchstonelaw09.PrintBack'. -/
def printBackUptoCard : Claim7 := { stood := { row := printBackUptoRow, standIns := [], harness := (true, "65a0dcf20f0cd373d49ecb7666bc27ee47d66fed1675093a79de9461c89cc7dd"), looks := true }, kinds := [], alts := [], laidByText := true, laidKinds := [.data, .data, .data, .sentinel, .sentinel, .data], laidTests := true, laidLooks := .later }
def PrintBackUptoCardSaid : Prop := Claim7.holds Tryz.pinned (.plain (OpenSpec.upto printBackSpec)) printBackUptoCard

/-- THE SECOND FORM's CARD OF 'touchstonelaw09.PrintApart'. -/
def printApartUptoCard : Claim7 := { stood := { row := printApartUptoRow, standIns := [], harness := (true, "65a0dcf20f0cd373d49ecb7666bc27ee47d66fed1675093a79de9461c89cc7dd"), looks := true }, kinds := [], alts := [], laidByText := true, laidKinds := [.data, .data, .data, .sentinel, .sentinel, .data], laidTests := true, laidLooks := .later }
def PrintApartUptoCardSaid : Prop := Claim7.holds Tryz.pinned (.plain (OpenSpec.upto printApartSpec)) printApartUptoCard
end Rows
end Go.Proofs.YtmkjalnlldpdcaaGreatDoor
