
/- Contract: Compare of two versions. -/
import Derived.Test.YtacoadfhiejnhaaDoorA2
namespace Go.Proofs.YtacoadfhiejnhaaDoor
open Go.RowKit
theorem hb_new_drew (w : World) (o : Obj) : (w.alloc o).drew.heap[w.heap.size]? = some o := hb_new w o
end Go.Proofs.YtacoadfhiejnhaaDoor
