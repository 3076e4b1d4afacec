
/- Contracts: cmp.Compare, cmp.Or of three, Compare of two versions, the document's Less and Compare, both Gaps. -/
import Derived.Test.YtpedmkdpbdhenaaGreatDoorA0
import Derived.Outline
import Derived.Deep.RegionHeld3
import Derived.StillTailTactics
import Derived.BigQuiet
import Derived.Deep.QuietTactic
import Derived.Deep.RegionWith
namespace Go.Proofs.YtpedmkdpbdhenaaGreatDoor
open Go.RowKit

namespace Sv
def cmpI (a b : Int) : Int := if a < b then -1 else if b < a then 1 else 0
def orI (a b c : Int) : Int := if a ≠ 0 then a else if b ≠ 0 then b else c
/-- A version. -/
structure V where
  a : Int
  b : Int
  c : Int
deriving DecidableEq
def less (x y : V) : Bool := if x.a ≠ y.a then decide (x.a < y.a) else if x.b ≠ y.b then decide (x.b < y.b) else decide (x.c < y.c)
def cmp (x y : V) : Int := if less x y then -1 else if less y x then 1 else 0
def gap (x y : V) : Int := if x.a ≠ y.a then 3 else if x.b ≠ y.b then 2 else if x.c ≠ y.c then 1 else 0
theorem cmp_or (x y : V) : orI (cmpI x.a y.a) (cmpI x.b y.b) (cmpI x.c y.c) = cmp x y := by
  unfold orI cmpI cmp less
  rcases Int.lt_trichotomy x.a y.a with h | h | h <;> rcases Int.lt_trichotomy x.b y.b with g | g | g <;> rcases Int.lt_trichotomy x.c y.c with k | k | k <;>
    simp [h, g, k, Int.ne_of_lt, Int.ne_of_gt, Int.lt_asymm, Int.lt_irrefl]
end Sv
abbrev vv (x : Sv.V) : Value := .agg #[.int .i64 x.a, .int .i64 x.b, .int .i64 x.c]
abbrev vcells (x : Sv.V) : Array Value := #[.int .i64 x.a, .int .i64 x.b, .int .i64 x.c]

theorem bcell {W w1 : World} (hb : Below W.heap.size W w1) : (∀ b o, b < W.heap.size → w1.cell? ⟨b, o, none⟩ = W.cell? ⟨b, o, none⟩) ∧ (∀ b o, b < W.heap.size → w1.frozen? ⟨b, o, none⟩ = W.frozen? ⟨b, o, none⟩) :=
  ⟨fun b o h => hb.cell (p := ⟨b, o, none⟩) h, fun b o h => hb.frozen (p := ⟨b, o, none⟩) h⟩
end Go.Proofs.YtpedmkdpbdhenaaGreatDoor
