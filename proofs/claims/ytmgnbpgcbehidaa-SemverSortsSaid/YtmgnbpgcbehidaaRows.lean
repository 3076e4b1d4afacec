/-
  No cell of these rows narrows 'for every input' (looked for: loops, veiled, ifaces, maps, wideKeys, modest, calm, conditions, laid).
  DERIVED. THE GIVEN ROWS OF THIS SEAT. 4 by the template 'for every input the law returns true; each argument reads behind the call as it read before'; 0 by the template 'total and deterministic' (their statements: YtmgnbpgcbehidaaTotals.lean).
  GIVEN WITH THE SEED: the statements are not yours to turn. If you find one false, say at which input.
  Laid BY PROGRAM, IN A SANDBOX (cutbox-rows.mjs): the forced cells as the released guide's own fill.sh prints them over the translation abace7da1bea7889… (all of the seat's roots in one cut). By AI agents, Wed Nov 11 2026. No macro, syntax, notation, axiom, sorry.
-/
import Derived.Test.YtmgnbpgcbehidaaChecked
import GoSem.Claim
import GoSem.ClaimJoined
import GoSem.ClaimMapViews
import Derived.JoinedTies
import Derived.KernelRfl
namespace Go.Proofs.Ytmgnbpgcbehidaa
/- THE CELL 'sum', in the pinned program and in every row, IS THE sha256 OF THE DUMP (.gsa) THAT YtmgnbpgcbehidaaProg.lean LOADS. Nothing in Lean hashes anything: it is a label: what it is worth is what the hold of that sum in a sandbox is worth. -/
noncomputable def Try.pinned : Pinned := { name := "ytmgnbpgcbehidaa", sum := "abace7da1bea78899bacfc91e583ce1035498c7890859ebc9da6a3ae2f1c54ca", checked := Try.checked }
namespace Rows
def none {H : Type} : Left H := { results := [], args := [] }

/-- 'touchstonelaw05.SemverOrders': WHATEVER THE INPUT: true; the input reads as it did. -/
def semverOrdersSpec : ChangeSpec := { name := "semverOrders", fn := fun _ => fun
  | [d1, d2, d3] => { results := [.lit (.bool true)], args := [d1, d2, d3] }
  | _ => none }
def semverOrdersRow : OpenClaim := { program := "ytmgnbpgcbehidaa", sum := "abace7da1bea78899bacfc91e583ce1035498c7890859ebc9da6a3ae2f1c54ca", func := "touchstone/touchstonelaw05.SemverOrders", spec := "semverOrders", inPlace := ["internal/bytealg.IndexByteString", "internal/bytealg.IndexString"], named := ["internal/bytealg.MaxLen"], plainKeys := false, apart := false }
def SemverOrdersSaid : Prop := semverOrdersRow.holds Try.pinned (OpenSpec.ofChange semverOrdersSpec)

/-- ITS FALSE NEIGHBOUR: 'it returns false'. Refute it at one input. -/
def semverOrdersWrong : ChangeSpec := { name := "semverOrders", fn := fun _ => fun
  | [d1, d2, d3] => { results := [.lit (.bool false)], args := [d1, d2, d3] }
  | _ => none }
def SemverOrdersWrongFalsely : Prop := semverOrdersRow.holds Try.pinned (OpenSpec.ofChange semverOrdersWrong)

/-- 'touchstonelaw05.SemverNexts': WHATEVER THE INPUT: true; the input reads as it did. -/
def semverNextsSpec : ChangeSpec := { name := "semverNexts", fn := fun _ => fun
  | [d1, d2, d3] => { results := [.lit (.bool true)], args := [d1, d2, d3] }
  | _ => none }
def semverNextsRow : OpenClaim := { program := "ytmgnbpgcbehidaa", sum := "abace7da1bea78899bacfc91e583ce1035498c7890859ebc9da6a3ae2f1c54ca", func := "touchstone/touchstonelaw05.SemverNexts", spec := "semverNexts", inPlace := ["internal/bytealg.IndexByteString", "internal/bytealg.IndexString"], named := ["internal/bytealg.MaxLen"], plainKeys := false, apart := false }
def SemverNextsSaid : Prop := semverNextsRow.holds Try.pinned (OpenSpec.ofChange semverNextsSpec)

/-- ITS FALSE NEIGHBOUR: 'it returns false'. Refute it at one input. -/
def semverNextsWrong : ChangeSpec := { name := "semverNexts", fn := fun _ => fun
  | [d1, d2, d3] => { results := [.lit (.bool false)], args := [d1, d2, d3] }
  | _ => none }
def SemverNextsWrongFalsely : Prop := semverNextsRow.holds Try.pinned (OpenSpec.ofChange semverNextsWrong)

/-- 'touchstonelaw05.SemverSorts': WHATEVER THE INPUT: true; the input reads as it did. -/
def semverSortsSpec : ChangeSpec := { name := "semverSorts", fn := fun _ => fun
  | [d1, d2, d3] => { results := [.lit (.bool true)], args := [d1, d2, d3] }
  | _ => none }
def semverSortsRow : OpenClaim := { program := "ytmgnbpgcbehidaa", sum := "abace7da1bea78899bacfc91e583ce1035498c7890859ebc9da6a3ae2f1c54ca", func := "touchstone/touchstonelaw05.SemverSorts", spec := "semverSorts", inPlace := ["internal/bytealg.IndexByteString", "internal/bytealg.IndexString"], unfollowed := true, recurses := true, named := ["internal/bytealg.MaxLen"], plainKeys := false, apart := false }
def SemverSortsSaid : Prop := semverSortsRow.holds Try.pinned (OpenSpec.ofChange semverSortsSpec)

/-- ITS FALSE NEIGHBOUR: 'it returns false'. Refute it at one input. -/
def semverSortsWrong : ChangeSpec := { name := "semverSorts", fn := fun _ => fun
  | [d1, d2, d3] => { results := [.lit (.bool false)], args := [d1, d2, d3] }
  | _ => none }
def SemverSortsWrongFalsely : Prop := semverSortsRow.holds Try.pinned (OpenSpec.ofChange semverSortsWrong)

/-- 'touchstonelaw05.SemverBetween': WHATEVER THE INPUT: true; the input reads as it did. -/
def semverBetweenSpec : ChangeSpec := { name := "semverBetween", fn := fun _ => fun
  | [d1, d2] => { results := [.lit (.bool true)], args := [d1, d2] }
  | _ => none }
def semverBetweenRow : OpenClaim := { program := "ytmgnbpgcbehidaa", sum := "abace7da1bea78899bacfc91e583ce1035498c7890859ebc9da6a3ae2f1c54ca", func := "touchstone/touchstonelaw05.SemverBetween", spec := "semverBetween", inPlace := ["internal/bytealg.IndexByteString", "internal/bytealg.IndexString"], unfollowed := true, recurses := true, named := ["internal/bytealg.MaxLen"], plainKeys := false, apart := false }
def SemverBetweenSaid : Prop := semverBetweenRow.holds Try.pinned (OpenSpec.ofChange semverBetweenSpec)

/-- ITS FALSE NEIGHBOUR: 'it returns false'. Refute it at one input. -/
def semverBetweenWrong : ChangeSpec := { name := "semverBetween", fn := fun _ => fun
  | [d1, d2] => { results := [.lit (.bool false)], args := [d1, d2] }
  | _ => none }
def SemverBetweenWrongFalsely : Prop := semverBetweenRow.holds Try.pinned (OpenSpec.ofChange semverBetweenWrong)

/- THE SECOND FORM. 'bulk': how many values and letters a reading holds, each counted each time it is reached (what is shared counts as often as it is met; a slice's spare places count too). A statement '..UptoSaid' is the law's where the arguments, and the package variables that the reading takes, are together of bulk at most 1048576: NARROWER than '..Said'. Prove '..Said' where nothing that the law and all that it calls make is longer than what came in: it says more and counts as full. Else prove '..UptoSaid'. A law counts once. -/
mutual
def uptoBulk {H : Type} : DataW H → Nat
  | .lit (.string bytes) => bytes.length + 1
  | .lit _ => 1
  | .nil => 1
  | .ptr d => uptoBulk d + 1
  | .slice elems spare => uptoBulkAll elems + uptoBulkAll spare + 1
  | .agg parts => uptoBulkAll parts + 1
  | .iface _ d => uptoBulk d + 1
  | .map entries => uptoBulkEntries entries + 1
  | .held _ => 1
def uptoBulkAll {H : Type} : List (DataW H) → Nat
  | [] => 0
  | d :: r => uptoBulk d + uptoBulkAll r
def uptoBulkEntries {H : Type} : List (Lit × DataW H) → Nat
  | [] => 0
  | x :: r => uptoBulkEntry x + uptoBulkEntries r
def uptoBulkEntry {H : Type} : Lit × DataW H → Nat
  | (.string bytes, d) => bytes.length + uptoBulk d + 1
  | (_, d) => uptoBulk d + 1
 end
def uptoSmall : (H : Type) → List (DataW H) → Bool := fun _ ds => decide (uptoBulkAll ds ≤ 1048576)
def OpenSpec.upto (s : _root_.Go.ChangeSpec) : _root_.Go.OpenSpec := { _root_.Go.OpenSpec.ofChange s with cond := some uptoSmall }

/-- 'touchstonelaw05.SemverOrders', WHERE WHAT IT READS IS OF BULK AT MOST 1048576: true; the input reads as it did. -/
def semverOrdersUptoRow : OpenClaim := { program := "ytmgnbpgcbehidaa", sum := "abace7da1bea78899bacfc91e583ce1035498c7890859ebc9da6a3ae2f1c54ca", func := "touchstone/touchstonelaw05.SemverOrders", spec := "semverOrders", inPlace := ["internal/bytealg.IndexByteString", "internal/bytealg.IndexString"], named := ["internal/bytealg.MaxLen"], plainKeys := false, apart := false, narrowed := true }
def SemverOrdersUptoSaid : Prop := semverOrdersUptoRow.holds Try.pinned (OpenSpec.upto semverOrdersSpec)

/-- 'touchstonelaw05.SemverNexts', WHERE WHAT IT READS IS OF BULK AT MOST 1048576: true; the input reads as it did. -/
def semverNextsUptoRow : OpenClaim := { program := "ytmgnbpgcbehidaa", sum := "abace7da1bea78899bacfc91e583ce1035498c7890859ebc9da6a3ae2f1c54ca", func := "touchstone/touchstonelaw05.SemverNexts", spec := "semverNexts", inPlace := ["internal/bytealg.IndexByteString", "internal/bytealg.IndexString"], named := ["internal/bytealg.MaxLen"], plainKeys := false, apart := false, narrowed := true }
def SemverNextsUptoSaid : Prop := semverNextsUptoRow.holds Try.pinned (OpenSpec.upto semverNextsSpec)

/-- 'touchstonelaw05.SemverSorts', WHERE WHAT IT READS IS OF BULK AT MOST 1048576: true; the input reads as it did. -/
def semverSortsUptoRow : OpenClaim := { program := "ytmgnbpgcbehidaa", sum := "abace7da1bea78899bacfc91e583ce1035498c7890859ebc9da6a3ae2f1c54ca", func := "touchstone/touchstonelaw05.SemverSorts", spec := "semverSorts", inPlace := ["internal/bytealg.IndexByteString", "internal/bytealg.IndexString"], unfollowed := true, recurses := true, named := ["internal/bytealg.MaxLen"], plainKeys := false, apart := false, narrowed := true }
def SemverSortsUptoSaid : Prop := semverSortsUptoRow.holds Try.pinned (OpenSpec.upto semverSortsSpec)

/-- 'touchstonelaw05.SemverBetween', WHERE WHAT IT READS IS OF BULK AT MOST 1048576: true; the input reads as it did. -/
def semverBetweenUptoRow : OpenClaim := { program := "ytmgnbpgcbehidaa", sum := "abace7da1bea78899bacfc91e583ce1035498c7890859ebc9da6a3ae2f1c54ca", func := "touchstone/touchstonelaw05.SemverBetween", spec := "semverBetween", inPlace := ["internal/bytealg.IndexByteString", "internal/bytealg.IndexString"], unfollowed := true, recurses := true, named := ["internal/bytealg.MaxLen"], plainKeys := false, apart := false, narrowed := true }
def SemverBetweenUptoSaid : Prop := semverBetweenUptoRow.holds Try.pinned (OpenSpec.upto semverBetweenSpec)

end Rows
end Go.Proofs.Ytmgnbpgcbehidaa
