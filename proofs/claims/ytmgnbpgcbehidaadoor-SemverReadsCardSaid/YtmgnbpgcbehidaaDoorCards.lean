/-
  DERIVED. GIVEN WITH THE SEED: THE CARDS: each row of YtmgnbpgcbehidaaDoorRows.lean that lists a variable, with what it lists TIED to the program's text (the seventh form; the later family's looks); each row that meets fmt, with fmt's text TOLD by the authors' own Lean function (tested against real Go, not proved from fmt's source: count such statements apart). THE CARD IS WHAT COUNTS. Prove the row's statement (the work); the ties are given (YtmgnbpgcbehidaaDoorTie.lean); close each card by the builder's one call (the guide's Derived/Test/ToyasCard.lean, 'card_holds'). Laid BY PROGRAM, IN A SANDBOX (cutbox-door.mjs). By AI agents, Wed Nov 11 2026. No macro, syntax, notation, axiom, sorry.
-/
import Derived.Test.YtmgnbpgcbehidaaDoorRows
import GoSem.ClaimSeven
namespace Go.Proofs.YtmgnbpgcbehidaaDoor
namespace Rows

/-- THE TIED CARD OF 'touchstonelaw05.SemverReads'. -/
def semverReadsCard : Claim7 := { stood := { row := semverReadsRow, standIns := [], harness := (true, "23cdb12ebf9b3fb63b70e4751c59a9e6943e1ed06f69ba3a1977ea9c5ae119cf"), looks := false }, kinds := [], alts := [], laidByText := true, laidKinds := [.data, .data, .data], laidTests := true, laidLooks := .later }
def SemverReadsCardSaid : Prop := Claim7.holds Tryd.pinned (.plain (OpenSpec.ofChange semverReadsSpec)) semverReadsCard

/-- THE SECOND FORM's CARD OF 'touchstonelaw05.SemverReads'. -/
def semverReadsUptoCard : Claim7 := { stood := { row := semverReadsUptoRow, standIns := [], harness := (true, "23cdb12ebf9b3fb63b70e4751c59a9e6943e1ed06f69ba3a1977ea9c5ae119cf"), looks := false }, kinds := [], alts := [], laidByText := true, laidKinds := [.data, .data, .data], laidTests := true, laidLooks := .later }
def SemverReadsUptoCardSaid : Prop := Claim7.holds Tryd.pinned (.plain (OpenSpec.upto semverReadsSpec)) semverReadsUptoCard
end Rows
end Go.Proofs.YtmgnbpgcbehidaaDoor
