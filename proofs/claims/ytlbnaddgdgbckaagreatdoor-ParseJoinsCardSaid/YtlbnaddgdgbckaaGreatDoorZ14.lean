/- Texts in a row: A2 A3. -/
import Derived.Test.YtlbnaddgdgbckaaGreatDoorZ13
/- Contracts: the document's Compare, both Gaps, cmp.Or of three numbers, Compare of two versions. -/
namespace Go.Proofs.YtlbnaddgdgbckaaGreatDoor
open Go.RowKit

theorem below2X (w : World) (o1 o2 : Obj) : Below w.heap.size w ((w.alloc o1).alloc o2) := (below_alloc _ _).trans ((below_alloc _ _).mono (by simp))
end Go.Proofs.YtlbnaddgdgbckaaGreatDoor
/- Contract: Compare of two versions. -/
namespace Go.Proofs.YtlbnaddgdgbckaaGreatDoor
open Go.RowKit
theorem hb_new_drew (w : World) (o : Obj) : (w.alloc o).drew.heap[w.heap.size]? = some o := hb_new w o
end Go.Proofs.YtlbnaddgdgbckaaGreatDoor
