/- Sorted and Around, whatever comes in. -/
import Derived.Test.YtmgnbpgcbehidaaG8
import Derived.Test.YtmgnbpgcbehidaaH2d
import Derived.Test.YtmgnbpgcbehidaaH5
namespace Go.Proofs.Ytmgnbpgcbehidaa
open Go.RowKit
theorem sorted_any (v : Value) (l : List Sv.V) (w : World) (hr : VRow w v l) (hok : ∀ x ∈ l, OkV x) (h60 : l.length ≤ 60) : Calls Try.prog 21 #[v] w (SortedR (inB l) w.heap.size w) :=
  sorted_of v l w hr hok h60 fun _ _ _ W h hn => sortedFunc_any W h hn
theorem around_any (v : Sv.V) (vl : Value) (l : List Sv.V) (w : World) (hr : VRow w vl l) (hok : ∀ x ∈ l, OkV x) (h60 : l.length ≤ 60) : Calls Try.prog 16 #[vv v, vl] w (AroundR l v w) :=
  around_of v vl l w hr hok fun W h => sorted_any vl l W h hok h60
end Go.Proofs.Ytmgnbpgcbehidaa
