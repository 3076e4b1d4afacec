
/- Next, whatever comes in. -/
import Derived.Test.YtmgnbpgcbehidaaDoorA6
namespace Go.Proofs.YtmgnbpgcbehidaaDoor
open Go.RowKit
theorem next_any (x : Sv.V) (g : Int) (w : World) : Calls Tryd.prog 16 #[vv x, .int .i64 g] w fun e w' => e = .returned (nx (Sv.next x g)) ∧ Below w.heap.size w w' := by
  rcases Bool.eq_false_or_eq_true (Sv.right x) with h | h
  · by_cases h1 : g < 1
    · rw [Sv.next_bad (.inr (.inl h1))]; exact next_bad1 x g h h1 w
    · by_cases h2 : 3 < g
      · rw [Sv.next_bad (.inr (.inr h2))]; exact next_bad2 x g h h2 w
      · by_cases h3 : Sv.at' x g = 999999
        · rw [Sv.next_full h (by omega) (by omega) h3]
          have h4 : g = 1 ∨ g = 2 ∨ g = 3 := by omega
          rcases h4 with rfl | rfl | rfl
          · exact next_full1 x h (by simpa [Sv.at'] using h3) w
          · exact next_full2 x h (by simpa [Sv.at'] using h3) w
          · exact next_full3 x h (by simpa [Sv.at'] using h3) w
        · rw [Sv.next_up h (by omega) (by omega) h3]
          have h4 : g = 1 ∨ g = 2 ∨ g = 3 := by omega
          rcases h4 with rfl | rfl | rfl
          · exact next_up1 x h (by simpa [Sv.at'] using h3) w
          · exact next_up2 x h (by simpa [Sv.at'] using h3) w
          · exact next_up3 x h (by simpa [Sv.at'] using h3) w
  · rw [Sv.next_bad (.inl h)]; exact next_bad0 x g h w
end Go.Proofs.YtmgnbpgcbehidaaDoor
