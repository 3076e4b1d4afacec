/-
  DERIVED. GIVEN WITH THE SEED: THE CARDS: each row of YtgflmahlghcchaaDoorRows.lean that lists a variable, with what it lists TIED to the program's text (the seventh form; the later family's looks); each row that meets fmt, with fmt's text TOLD by the authors' own Lean function (tested against real Go, not proved from fmt's source: count such statements apart). THE CARD IS WHAT COUNTS. Prove the row's statement (the work); the ties are given (YtgflmahlghcchaaDoorTie.lean); close each card by the builder's one call (the guide's Derived/Test/ToyasCard.lean, 'card_holds'). Laid BY PROGRAM, IN A SANDBOX (cutbox-door.mjs). By AI agents, Wed Nov 11 2026. No macro, syntax, notation, axiom, sorry.
-/
import Derived.Test.YtgflmahlghcchaaDoorRows
import GoSem.ClaimSeven
namespace Go.Proofs.YtgflmahlghcchaaDoor
namespace Rows

/-- THE TIED CARD OF 'touchstonelaw14.SchemeParts'. -/
def schemePartsCard : Claim7 := { stood := { row := schemePartsRow, standIns := [], harness := (true, "494d0b7cba58226ab6b9fa8527914304edd4c40631b92e02c864b813e8970134"), looks := false }, kinds := [], alts := [], laidByText := true, laidKinds := [.data, .data, .data], laidTests := true, laidLooks := .later }
def SchemePartsCardSaid : Prop := Claim7.holds Tryd.pinned (.plain (OpenSpec.ofChange schemePartsSpec)) schemePartsCard

/-- THE SECOND FORM's CARD OF 'touchstonelaw14.SchemeParts'. -/
def schemePartsUptoCard : Claim7 := { stood := { row := schemePartsUptoRow, standIns := [], harness := (true, "494d0b7cba58226ab6b9fa8527914304edd4c40631b92e02c864b813e8970134"), looks := false }, kinds := [], alts := [], laidByText := true, laidKinds := [.data, .data, .data], laidTests := true, laidLooks := .later }
def SchemePartsUptoCardSaid : Prop := Claim7.holds Tryd.pinned (.plain (OpenSpec.upto schemePartsSpec)) schemePartsUptoCard
end Rows
end Go.Proofs.YtgflmahlghcchaaDoor
