
/- Contract: Compare of two versions. -/
import Derived.Test.YtpedmkdpbdhenaaGreatDoorA2
namespace Go.Proofs.YtpedmkdpbdhenaaGreatDoor
open Go.RowKit
theorem hb_new_drew (w : World) (o : Obj) : (w.alloc o).drew.heap[w.heap.size]? = some o := hb_new w o
end Go.Proofs.YtpedmkdpbdhenaaGreatDoor
