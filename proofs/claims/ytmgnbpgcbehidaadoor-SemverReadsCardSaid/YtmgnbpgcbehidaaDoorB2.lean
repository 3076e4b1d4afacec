
/- The chapter's examples hold. -/
import Derived.Test.YtmgnbpgcbehidaaDoorB1
import Derived.Test.YtmgnbpgcbehidaaDoorA7
import Derived.Outline
namespace Go.Proofs.YtmgnbpgcbehidaaDoor
open Go.RowKit
theorem parse_ex : Sv.parseS ⟨#[49, 46, 50, 48, 46, 51]⟩ = (⟨1, 20, 3⟩, 0) := by decide +kernel
theorem next_ex : Sv.next ⟨1, 2, 3⟩ 2 = (⟨1, 3, 0⟩, 0) := by decide +kernel
theorem gap_ex : Sv.gap ⟨1, 3, 0⟩ ⟨1, 2, 3⟩ = 2 := by decide +kernel
theorem no_any (k : Int) (w : World) : Calls Tryd.prog 9 #[.int .i64 k] w fun e w' => e = .returned (.int .i64 k) ∧ w = w' := by
  go_enter Tryd.func9, Tryd.ntmps9
  go_wp2
  go_ret
  exact ⟨rfl, rfl⟩
theorem parse1 (w : World) : Calls Tryd.prog 5 #[.string ⟨#[49, 46, 50, 48, 46, 51]⟩] w fun e w' => e = .returned (.tuple #[.agg #[.int .i64 1, .int .i64 20, .int .i64 3], .int .i64 0]) ∧ Below w.heap.size w w' :=
  (parse_any _ (by decide) w).mono fun e w' ⟨he, hb⟩ => ⟨by rw [he, parse_ex], hb⟩
theorem next1 (w : World) : Calls Tryd.prog 16 #[.agg #[.int .i64 1, .int .i64 2, .int .i64 3], .int .i64 2] w fun e w' => e = .returned (.tuple #[.agg #[.int .i64 1, .int .i64 3, .int .i64 0], .int .i64 0]) ∧ Below w.heap.size w w' :=
  (next_any ⟨1, 2, 3⟩ 2 w).mono fun e w' ⟨he, hb⟩ => ⟨by rw [he, next_ex], hb⟩
theorem gap1 (w : World) : Calls Tryd.prog 17 #[.agg #[.int .i64 1, .int .i64 3, .int .i64 0], .agg #[.int .i64 1, .int .i64 2, .int .i64 3]] w fun e w' => e = .returned (.int .i64 2) ∧ Below w.heap.size w w' :=
  (gap_any ⟨1, 3, 0⟩ ⟨1, 2, 3⟩ w).mono fun e w' ⟨he, hb⟩ => ⟨by rw [he, gap_ex], hb⟩
set_option maxHeartbeats 1000000 in
theorem alive_ok (w : World) : Calls Tryd.prog 4 #[] w fun e w' => e = .returned (.bool true) ∧ Below w.heap.size w w' := by
  go_enter Tryd.func4, Tryd.ntmps4
  go_wp2_with (first
    | (go_at_call 5; ((with_reducible refine (parse1 _).mono ?_); rintro e w1 ⟨rfl, hb1⟩))
    | (go_at_call 16; ((with_reducible refine (next1 _).mono ?_); rintro e w2 ⟨rfl, hb2⟩; obtain ⟨hc2, hf2⟩ := bcell hb2; have z2 := hb2.size; rw [World.size_alloc] at z2; have y2 : w1.heap.size < w2.heap.size := (by omega)))
    | (go_at_call 9; ((with_reducible refine (no_any _ _).mono ?_); rintro e w3 ⟨rfl, rfl⟩))
    | (go_at_call 17; ((with_reducible refine (gap1 _).mono ?_); rintro e w4 ⟨rfl, hb4⟩)))
  go_ret
  have z1 := hb1.size
  have hB2 : Below w.heap.size w w2 := (hb1.alloc hb1.size _).trans (hb2.mono (by simp; omega))
  have hB3 := hB2.alloc hB2.size (.cells #[.int .i64 1, .int .i64 3, .int .i64 0] 23)
  exact ⟨rfl, hB3.trans (hb4.mono hB3.size)⟩
end Go.Proofs.YtmgnbpgcbehidaaDoor
