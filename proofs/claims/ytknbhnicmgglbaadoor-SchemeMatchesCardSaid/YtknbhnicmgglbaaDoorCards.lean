/-
  DERIVED. GIVEN WITH THE SEED: THE CARDS: each row of YtknbhnicmgglbaaDoorRows.lean that lists a variable, with what it lists TIED to the program's text (the seventh form; the later family's looks); each row that meets fmt, with fmt's text TOLD by the authors' own Lean function (tested against real Go, not proved from fmt's source: count such statements apart). THE CARD IS WHAT COUNTS. Prove the row's statement (the work); the ties are given (YtknbhnicmgglbaaDoorTie.lean); close each card by the builder's one call (the guide's Derived/Test/ToyasCard.lean, 'card_holds'). Laid BY PROGRAM, IN A SANDBOX (cutbox-door.mjs). By AI agents, Wed Nov 11 2026. No macro, syntax, notation, axiom, sorry.
-/
import Derived.Test.YtknbhnicmgglbaaDoorRows
import GoSem.ClaimSeven
namespace Go.Proofs.YtknbhnicmgglbaaDoor
namespace Rows

/-- THE TIED CARD OF 'touchstonelaw14.SchemeMatches'. -/
def schemeMatchesCard : Claim7 := { stood := { row := schemeMatchesRow, standIns := [], harness := (true, "c35a678ac513eccc978daa757463d0146f14dfbff72ceac1f9c6c6d2a1f400ad"), looks := false }, kinds := [], alts := [], laidByText := true, laidKinds := [.data, .data, .data], laidTests := true, laidLooks := .later }
def SchemeMatchesCardSaid : Prop := Claim7.holds Tryd.pinned (.plain (OpenSpec.ofChange schemeMatchesSpec)) schemeMatchesCard

/-- THE TIED CARD OF 'touchstonelaw14.SchemeOrder'. -/
def schemeOrderCard : Claim7 := { stood := { row := schemeOrderRow, standIns := [], harness := (true, "c35a678ac513eccc978daa757463d0146f14dfbff72ceac1f9c6c6d2a1f400ad"), looks := false }, kinds := [], alts := [], laidByText := true, laidKinds := [.data, .data, .data], laidTests := true, laidLooks := .later }
def SchemeOrderCardSaid : Prop := Claim7.holds Tryd.pinned (.plain (OpenSpec.ofChange schemeOrderSpec)) schemeOrderCard

/-- THE SECOND FORM's CARD OF 'touchstonelaw14.SchemeMatches'. -/
def schemeMatchesUptoCard : Claim7 := { stood := { row := schemeMatchesUptoRow, standIns := [], harness := (true, "c35a678ac513eccc978daa757463d0146f14dfbff72ceac1f9c6c6d2a1f400ad"), looks := false }, kinds := [], alts := [], laidByText := true, laidKinds := [.data, .data, .data], laidTests := true, laidLooks := .later }
def SchemeMatchesUptoCardSaid : Prop := Claim7.holds Tryd.pinned (.plain (OpenSpec.upto schemeMatchesSpec)) schemeMatchesUptoCard

/-- THE SECOND FORM's CARD OF 'touchstonelaw14.SchemeOrder'. -/
def schemeOrderUptoCard : Claim7 := { stood := { row := schemeOrderUptoRow, standIns := [], harness := (true, "c35a678ac513eccc978daa757463d0146f14dfbff72ceac1f9c6c6d2a1f400ad"), looks := false }, kinds := [], alts := [], laidByText := true, laidKinds := [.data, .data, .data], laidTests := true, laidLooks := .later }
def SchemeOrderUptoCardSaid : Prop := Claim7.holds Tryd.pinned (.plain (OpenSpec.upto schemeOrderSpec)) schemeOrderUptoCard
end Rows
end Go.Proofs.YtknbhnicmgglbaaDoor
