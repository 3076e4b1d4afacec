
/- Contracts: the document's Compare, both Gaps, cmp.Or of three numbers, Compare of two versions. -/
import Derived.Test.YtpedmkdpbdhenaaGreatDoorA1
namespace Go.Proofs.YtpedmkdpbdhenaaGreatDoor
open Go.RowKit

theorem below2 (w : World) (o1 o2 : Obj) : Below w.heap.size w ((w.alloc o1).alloc o2) := (below_alloc _ _).trans ((below_alloc _ _).mono (by simp))
end Go.Proofs.YtpedmkdpbdhenaaGreatDoor
