/-
  No cell of these rows narrows 'for every input' (looked for: loops, veiled, ifaces, maps, wideKeys, modest, calm, conditions, laid).
  DERIVED. THE GIVEN ROWS OF THIS SEAT. 6 by the template 'for every input the law returns true; each argument reads behind the call as it read before'; 0 by the template 'total and deterministic' (their statements: YtmfphnhdahaooaaTotals.lean).
  GIVEN WITH THE SEED: the statements are not yours to turn. If you find one false, say at which input.
  Laid BY PROGRAM, IN A SANDBOX (cutbox-rows.mjs): the forced cells as the released guide's own fill.sh prints them over the translation 2a014c8512d876f3… (all of the seat's roots in one cut). By AI agents, Wed Nov 11 2026. No macro, syntax, notation, axiom, sorry.
-/
import Derived.Test.YtmfphnhdahaooaaChecked
import GoSem.Claim
import GoSem.ClaimJoined
import GoSem.ClaimMapViews
import Derived.JoinedTies
import Derived.KernelRfl
namespace Go.Proofs.Ytmfphnhdahaooaa
/- THE CELL 'sum', in the pinned program and in every row, IS THE sha256 OF THE DUMP (.gsa) THAT YtmfphnhdahaooaaProg.lean LOADS. Nothing in Lean hashes anything: it is a label: what it is worth is what the hold of that sum in a sandbox is worth. -/
noncomputable def Try.pinned : Pinned := { name := "ytmfphnhdahaooaa", sum := "2a014c8512d876f33a998f8c5108f0043a9adcc40b73a6ab4563e48e10bdd49e", checked := Try.checked }
namespace Rows
def none {H : Type} : Left H := { results := [], args := [] }

/-- 'touchstonelaw01.VfsPlays': WHATEVER THE INPUT: true; the input reads as it did. -/
def vfsPlaysSpec : ChangeSpec := { name := "vfsPlays", fn := fun _ => fun
  | [d1, d2] => { results := [.lit (.bool true)], args := [d1, d2] }
  | _ => none }
def vfsPlaysRow : OpenClaim := { program := "ytmfphnhdahaooaa", sum := "2a014c8512d876f33a998f8c5108f0043a9adcc40b73a6ab4563e48e10bdd49e", func := "touchstone/touchstonelaw01.VfsPlays", spec := "vfsPlays", inPlace := ["maps.clone"], unfollowed := true, recurses := true, plainKeys := false, apart := false }
def VfsPlaysSaid : Prop := vfsPlaysRow.holds Try.pinned (OpenSpec.ofChange vfsPlaysSpec)

/-- ITS FALSE NEIGHBOUR: 'it returns false'. Refute it at one input. -/
def vfsPlaysWrong : ChangeSpec := { name := "vfsPlays", fn := fun _ => fun
  | [d1, d2] => { results := [.lit (.bool false)], args := [d1, d2] }
  | _ => none }
def VfsPlaysWrongFalsely : Prop := vfsPlaysRow.holds Try.pinned (OpenSpec.ofChange vfsPlaysWrong)

/-- 'touchstonelaw01.VfsSynced': WHATEVER THE INPUT: true; the input reads as it did. -/
def vfsSyncedSpec : ChangeSpec := { name := "vfsSynced", fn := fun _ => fun
  | [d1, d2, d3, d4, d5] => { results := [.lit (.bool true)], args := [d1, d2, d3, d4, d5] }
  | _ => none }
def vfsSyncedRow : OpenClaim := { program := "ytmfphnhdahaooaa", sum := "2a014c8512d876f33a998f8c5108f0043a9adcc40b73a6ab4563e48e10bdd49e", func := "touchstone/touchstonelaw01.VfsSynced", spec := "vfsSynced", inPlace := ["maps.clone"], unfollowed := true, recurses := true, plainKeys := false, apart := false }
def VfsSyncedSaid : Prop := vfsSyncedRow.holds Try.pinned (OpenSpec.ofChange vfsSyncedSpec)

/-- ITS FALSE NEIGHBOUR: 'it returns false'. Refute it at one input. -/
def vfsSyncedWrong : ChangeSpec := { name := "vfsSynced", fn := fun _ => fun
  | [d1, d2, d3, d4, d5] => { results := [.lit (.bool false)], args := [d1, d2, d3, d4, d5] }
  | _ => none }
def VfsSyncedWrongFalsely : Prop := vfsSyncedRow.holds Try.pinned (OpenSpec.ofChange vfsSyncedWrong)

/-- 'touchstonelaw01.VfsAll': WHATEVER THE INPUT: true; the input reads as it did. -/
def vfsAllSpec : ChangeSpec := { name := "vfsAll", fn := fun _ => fun
  | [d1, d2] => { results := [.lit (.bool true)], args := [d1, d2] }
  | _ => none }
def vfsAllRow : OpenClaim := { program := "ytmfphnhdahaooaa", sum := "2a014c8512d876f33a998f8c5108f0043a9adcc40b73a6ab4563e48e10bdd49e", func := "touchstone/touchstonelaw01.VfsAll", spec := "vfsAll", inPlace := ["maps.clone"], unfollowed := true, recurses := true, plainKeys := false, apart := false }
def VfsAllSaid : Prop := vfsAllRow.holds Try.pinned (OpenSpec.ofChange vfsAllSpec)

/-- ITS FALSE NEIGHBOUR: 'it returns false'. Refute it at one input. -/
def vfsAllWrong : ChangeSpec := { name := "vfsAll", fn := fun _ => fun
  | [d1, d2] => { results := [.lit (.bool false)], args := [d1, d2] }
  | _ => none }
def VfsAllWrongFalsely : Prop := vfsAllRow.holds Try.pinned (OpenSpec.ofChange vfsAllWrong)

/-- 'touchstonelaw01.VfsRefused': WHATEVER THE INPUT: true; the input reads as it did. -/
def vfsRefusedSpec : ChangeSpec := { name := "vfsRefused", fn := fun _ => fun
  | [d1, d2, d3] => { results := [.lit (.bool true)], args := [d1, d2, d3] }
  | _ => none }
def vfsRefusedRow : OpenClaim := { program := "ytmfphnhdahaooaa", sum := "2a014c8512d876f33a998f8c5108f0043a9adcc40b73a6ab4563e48e10bdd49e", func := "touchstone/touchstonelaw01.VfsRefused", spec := "vfsRefused", inPlace := ["maps.clone"], unfollowed := true, recurses := true, plainKeys := false, apart := false }
def VfsRefusedSaid : Prop := vfsRefusedRow.holds Try.pinned (OpenSpec.ofChange vfsRefusedSpec)

/-- ITS FALSE NEIGHBOUR: 'it returns false'. Refute it at one input. -/
def vfsRefusedWrong : ChangeSpec := { name := "vfsRefused", fn := fun _ => fun
  | [d1, d2, d3] => { results := [.lit (.bool false)], args := [d1, d2, d3] }
  | _ => none }
def VfsRefusedWrongFalsely : Prop := vfsRefusedRow.holds Try.pinned (OpenSpec.ofChange vfsRefusedWrong)

/-- 'touchstonelaw01.VfsRoom': WHATEVER THE INPUT: true; the input reads as it did. -/
def vfsRoomSpec : ChangeSpec := { name := "vfsRoom", fn := fun _ => fun
  | [d1, d2] => { results := [.lit (.bool true)], args := [d1, d2] }
  | _ => none }
def vfsRoomRow : OpenClaim := { program := "ytmfphnhdahaooaa", sum := "2a014c8512d876f33a998f8c5108f0043a9adcc40b73a6ab4563e48e10bdd49e", func := "touchstone/touchstonelaw01.VfsRoom", spec := "vfsRoom", inPlace := ["maps.clone"], unfollowed := true, recurses := true, plainKeys := false, apart := false }
def VfsRoomSaid : Prop := vfsRoomRow.holds Try.pinned (OpenSpec.ofChange vfsRoomSpec)

/-- ITS FALSE NEIGHBOUR: 'it returns false'. Refute it at one input. -/
def vfsRoomWrong : ChangeSpec := { name := "vfsRoom", fn := fun _ => fun
  | [d1, d2] => { results := [.lit (.bool false)], args := [d1, d2] }
  | _ => none }
def VfsRoomWrongFalsely : Prop := vfsRoomRow.holds Try.pinned (OpenSpec.ofChange vfsRoomWrong)

/-- 'touchstonelaw01.VfsNil': WHATEVER THE INPUT: true; the input reads as it did. -/
def vfsNilSpec : ChangeSpec := { name := "vfsNil", fn := fun _ => fun
  | [d1, d2, d3, d4, d5] => { results := [.lit (.bool true)], args := [d1, d2, d3, d4, d5] }
  | _ => none }
def vfsNilRow : OpenClaim := { program := "ytmfphnhdahaooaa", sum := "2a014c8512d876f33a998f8c5108f0043a9adcc40b73a6ab4563e48e10bdd49e", func := "touchstone/touchstonelaw01.VfsNil", spec := "vfsNil", inPlace := ["maps.clone"], unfollowed := true, recurses := true, plainKeys := false, apart := false }
def VfsNilSaid : Prop := vfsNilRow.holds Try.pinned (OpenSpec.ofChange vfsNilSpec)

/-- ITS FALSE NEIGHBOUR: 'it returns false'. Refute it at one input. -/
def vfsNilWrong : ChangeSpec := { name := "vfsNil", fn := fun _ => fun
  | [d1, d2, d3, d4, d5] => { results := [.lit (.bool false)], args := [d1, d2, d3, d4, d5] }
  | _ => none }
def VfsNilWrongFalsely : Prop := vfsNilRow.holds Try.pinned (OpenSpec.ofChange vfsNilWrong)

/- THE SECOND FORM. 'bulk': how many values and letters a reading holds, each counted each time it is reached (what is shared counts as often as it is met; a slice's spare places count too). A statement '..UptoSaid' is the law's where the arguments, and the package variables that the reading takes, are together of bulk at most 1048576: NARROWER than '..Said'. Prove '..Said' where nothing that the law and all that it calls make is longer than what came in: it says more and counts as full. Else prove '..UptoSaid'. A law counts once. -/
mutual
def uptoBulk {H : Type} : DataW H → Nat
  | .lit (.string bytes) => bytes.length + 1
  | .lit _ => 1
  | .nil => 1
  | .ptr d => uptoBulk d + 1
  | .slice elems spare => uptoBulkAll elems + uptoBulkAll spare + 1
  | .agg parts => uptoBulkAll parts + 1
  | .iface _ d => uptoBulk d + 1
  | .map entries => uptoBulkEntries entries + 1
  | .held _ => 1
def uptoBulkAll {H : Type} : List (DataW H) → Nat
  | [] => 0
  | d :: r => uptoBulk d + uptoBulkAll r
def uptoBulkEntries {H : Type} : List (Lit × DataW H) → Nat
  | [] => 0
  | x :: r => uptoBulkEntry x + uptoBulkEntries r
def uptoBulkEntry {H : Type} : Lit × DataW H → Nat
  | (.string bytes, d) => bytes.length + uptoBulk d + 1
  | (_, d) => uptoBulk d + 1
 end
def uptoSmall : (H : Type) → List (DataW H) → Bool := fun _ ds => decide (uptoBulkAll ds ≤ 1048576)
def OpenSpec.upto (s : _root_.Go.ChangeSpec) : _root_.Go.OpenSpec := { _root_.Go.OpenSpec.ofChange s with cond := some uptoSmall }

/-- 'touchstonelaw01.VfsPlays', WHERE WHAT IT READS IS OF BULK AT MOST 1048576: true; the input reads as it did. -/
def vfsPlaysUptoRow : OpenClaim := { program := "ytmfphnhdahaooaa", sum := "2a014c8512d876f33a998f8c5108f0043a9adcc40b73a6ab4563e48e10bdd49e", func := "touchstone/touchstonelaw01.VfsPlays", spec := "vfsPlays", inPlace := ["maps.clone"], unfollowed := true, recurses := true, plainKeys := false, apart := false, narrowed := true }
def VfsPlaysUptoSaid : Prop := vfsPlaysUptoRow.holds Try.pinned (OpenSpec.upto vfsPlaysSpec)

/-- 'touchstonelaw01.VfsSynced', WHERE WHAT IT READS IS OF BULK AT MOST 1048576: true; the input reads as it did. -/
def vfsSyncedUptoRow : OpenClaim := { program := "ytmfphnhdahaooaa", sum := "2a014c8512d876f33a998f8c5108f0043a9adcc40b73a6ab4563e48e10bdd49e", func := "touchstone/touchstonelaw01.VfsSynced", spec := "vfsSynced", inPlace := ["maps.clone"], unfollowed := true, recurses := true, plainKeys := false, apart := false, narrowed := true }
def VfsSyncedUptoSaid : Prop := vfsSyncedUptoRow.holds Try.pinned (OpenSpec.upto vfsSyncedSpec)

/-- 'touchstonelaw01.VfsAll', WHERE WHAT IT READS IS OF BULK AT MOST 1048576: true; the input reads as it did. -/
def vfsAllUptoRow : OpenClaim := { program := "ytmfphnhdahaooaa", sum := "2a014c8512d876f33a998f8c5108f0043a9adcc40b73a6ab4563e48e10bdd49e", func := "touchstone/touchstonelaw01.VfsAll", spec := "vfsAll", inPlace := ["maps.clone"], unfollowed := true, recurses := true, plainKeys := false, apart := false, narrowed := true }
def VfsAllUptoSaid : Prop := vfsAllUptoRow.holds Try.pinned (OpenSpec.upto vfsAllSpec)

/-- 'touchstonelaw01.VfsRefused', WHERE WHAT IT READS IS OF BULK AT MOST 1048576: true; the input reads as it did. -/
def vfsRefusedUptoRow : OpenClaim := { program := "ytmfphnhdahaooaa", sum := "2a014c8512d876f33a998f8c5108f0043a9adcc40b73a6ab4563e48e10bdd49e", func := "touchstone/touchstonelaw01.VfsRefused", spec := "vfsRefused", inPlace := ["maps.clone"], unfollowed := true, recurses := true, plainKeys := false, apart := false, narrowed := true }
def VfsRefusedUptoSaid : Prop := vfsRefusedUptoRow.holds Try.pinned (OpenSpec.upto vfsRefusedSpec)

/-- 'touchstonelaw01.VfsRoom', WHERE WHAT IT READS IS OF BULK AT MOST 1048576: true; the input reads as it did. -/
def vfsRoomUptoRow : OpenClaim := { program := "ytmfphnhdahaooaa", sum := "2a014c8512d876f33a998f8c5108f0043a9adcc40b73a6ab4563e48e10bdd49e", func := "touchstone/touchstonelaw01.VfsRoom", spec := "vfsRoom", inPlace := ["maps.clone"], unfollowed := true, recurses := true, plainKeys := false, apart := false, narrowed := true }
def VfsRoomUptoSaid : Prop := vfsRoomUptoRow.holds Try.pinned (OpenSpec.upto vfsRoomSpec)

/-- 'touchstonelaw01.VfsNil', WHERE WHAT IT READS IS OF BULK AT MOST 1048576: true; the input reads as it did. -/
def vfsNilUptoRow : OpenClaim := { program := "ytmfphnhdahaooaa", sum := "2a014c8512d876f33a998f8c5108f0043a9adcc40b73a6ab4563e48e10bdd49e", func := "touchstone/touchstonelaw01.VfsNil", spec := "vfsNil", inPlace := ["maps.clone"], unfollowed := true, recurses := true, plainKeys := false, apart := false, narrowed := true }
def VfsNilUptoSaid : Prop := vfsNilUptoRow.holds Try.pinned (OpenSpec.upto vfsNilSpec)

end Rows
end Go.Proofs.Ytmfphnhdahaooaa
