
/- Contracts: the document's Compare, both Gaps, cmp.Or of three numbers, Compare of two versions. -/
import Derived.Test.YtmgnbpgcbehidaaDoorA1
namespace Go.Proofs.YtmgnbpgcbehidaaDoor
open Go.RowKit

theorem below2 (w : World) (o1 o2 : Obj) : Below w.heap.size w ((w.alloc o1).alloc o2) := (below_alloc _ _).trans ((below_alloc _ _).mono (by simp))
theorem gap_any (x y : Sv.V) (w : World) : Calls Tryd.prog 17 #[vv x, vv y] w fun e w' => e = .returned (.int .i64 (Sv.gap x y)) ∧ Below w.heap.size w w' := by
  go_enter Tryd.func17, Tryd.ntmps17
  go_wp2
  all_goals
    go_ret
    exact ⟨ret_int (by unfold Sv.gap; simp_all), below2 w _ _⟩
end Go.Proofs.YtmgnbpgcbehidaaDoor
