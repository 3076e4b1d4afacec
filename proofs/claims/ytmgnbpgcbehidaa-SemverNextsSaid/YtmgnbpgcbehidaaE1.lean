/- SemverNexts: the walk. -/
import Derived.Test.YtmgnbpgcbehidaaB2
import Derived.Test.YtmgnbpgcbehidaaM2
import Derived.Outline
namespace Go.Proofs.Ytmgnbpgcbehidaa
open Go.RowKit
set_option maxRecDepth 100000 in
set_option maxHeartbeats 2000000 in
theorem nexts_err (v u : Sv.V) (g f : Int) (h : Sv.next v g = (Sv.zero, f)) (hf : f ≠ 0) (w : World) : Calls Try.prog 4 #[vv v, .int .i64 g, vv u] w fun e w' => e = .returned (.bool true) ∧ Below w.heap.size w w' := by
  have H1 : RowKit.Hid (∀ w, Calls Try.prog 12 #[vv v, .int .i64 g] w fun e w' => e = .returned (.tuple #[.agg #[.int .i64 0, .int .i64 0, .int .i64 0], .int .i64 f]) ∧ Below w.heap.size w w') := Lib.hid (fun w => by have := next_any v g w; rw [h] at this; exact this)
  have H2 : RowKit.Hid (∀ w, Calls Try.prog 13 #[vv v, .int .i64 g] w fun e w' => e = .returned (.tuple #[.agg #[.int .i64 0, .int .i64 0, .int .i64 0], .int .i64 f]) ∧ Below w.heap.size w w') := Lib.hid (fun w => by have := refNext_any v g w; rw [h] at this; exact this)
  have q1 : (f == 0) = false := by simpa using hf
  have q2 : (f != 0) = true := by simpa using hf
  clear h hf
  go_enter Try.func4, Try.ntmps4
  go_wp2_with (first
    | (go_at_call 12; refine (H1.out _).mono ?_; rintro e w1 ⟨rfl, hb1⟩; obtain ⟨hc1, hf1⟩ := bcell hb1; have z1 : w.heap.size + 1 + 1 ≤ w1.heap.size := (by simpa using hb1.size); have y1 : w.heap.size < w1.heap.size := (by omega))
    | (go_at_call 13; refine (H2.out _).mono ?_; rintro e w2 ⟨rfl, hb2⟩; obtain ⟨hc2, hf2⟩ := bcell hb2; have z2 : w1.heap.size + 1 ≤ w2.heap.size := (by simpa using hb2.size); have y2 : w1.heap.size < w2.heap.size := (by omega))
    | (go_at_call 14; ((with_reducible refine (no_any _ _).mono ?_); rintro e w3 ⟨rfl, rfl⟩))
    | (go_at_call 11; refine (alive_ok _).mono ?_; rintro e w9 ⟨rfl, hb9⟩))
  go_ret
  have hB1 : Below w.heap.size w w1 := (below2 w _ _).trans (hb1.mono (by simp; omega))
  have hB2 : Below w.heap.size w w2 := (hB1.alloc hB1.size _).trans (hb2.mono (by simp; omega))
  have hB3 := hB2.alloc hB2.size (.cells #[.int .i64 0, .int .i64 0, .int .i64 0] 23)
  exact ⟨rfl, hB3.trans (hb9.mono hB3.size)⟩

set_option maxRecDepth 100000 in
set_option maxHeartbeats 4000000 in
theorem nexts_far (v n u : Sv.V) (g : Int) (h : Sv.next v g = (n, 0)) (h3 : Sv.cmp v n = -1) (h4 : Sv.gap v n = g) (h5 : Sv.right n = true) (hr : ((g == 1) = false ∧ (u.c == 0) = false) ∨ ((g == 1) = false ∧ (u.c == 0) = true ∧ (g == 2) = false ∧ (u.b == 0) = false)) (w : World) : Calls Try.prog 4 #[vv v, .int .i64 g, vv u] w fun e w' => e = .returned (.bool true) ∧ Below w.heap.size w w' := by
  have H1 : RowKit.Hid (∀ w, Calls Try.prog 12 #[vv v, .int .i64 g] w fun e w' => e = .returned (.tuple #[vv n, .int .i64 0]) ∧ Below w.heap.size w w') := Lib.hid (fun w => by have := next_any v g w; rw [h] at this; exact this)
  have H2 : RowKit.Hid (∀ w, Calls Try.prog 13 #[vv v, .int .i64 g] w fun e w' => e = .returned (.tuple #[vv n, .int .i64 0]) ∧ Below w.heap.size w w') := Lib.hid (fun w => by have := refNext_any v g w; rw [h] at this; exact this)
  have H3 : RowKit.Hid (∀ w, Calls Try.prog 7 #[vv v, vv n] w fun e w' => e = .returned (.int .i64 (-1)) ∧ Below w.heap.size w w') := Lib.hid (fun w => by have := cmp_any v n w; rw [h3] at this; exact this)
  have H4 : RowKit.Hid (∀ w, Calls Try.prog 9 #[vv v, vv n] w fun e w' => e = .returned (.int .i64 g) ∧ Below w.heap.size w w') := Lib.hid (fun w => by have := gap_any v n w; rw [h4] at this; exact this)
  have H5 : RowKit.Hid (∀ w, Calls Try.prog 15 #[vv n] w fun e w' => e = .returned (.bool true) ∧ Below w.heap.size w w') := Lib.hid (fun w => by have := right_any n w; rw [h5] at this; exact this)
  clear h h3 h4 h5

  rcases hr with ⟨r1, r2⟩ | ⟨r1, r2, r3, r4⟩
  all_goals
    go_enter Try.func4, Try.ntmps4
    go_wp2_with (first
      | (go_at_call 12; refine (H1.out _).mono ?_; rintro e w1 ⟨rfl, hb1⟩; obtain ⟨hc1, hf1⟩ := bcell hb1; have z1 : w.heap.size + 1 + 1 ≤ w1.heap.size := (by simpa using hb1.size); have y1v : w.heap.size < w1.heap.size := (by omega); have y1u : w.heap.size + 1 < w1.heap.size := (by omega))
      | (go_at_call 13; refine (H2.out _).mono ?_; rintro e w2 ⟨rfl, hb2⟩; obtain ⟨hc2, hf2⟩ := bcell hb2; have z2 : w1.heap.size + 1 ≤ w2.heap.size := (by simpa using hb2.size); have y2v : w.heap.size < w2.heap.size := (by omega); have y2u : w.heap.size + 1 < w2.heap.size := (by omega); have y2n : w1.heap.size < w2.heap.size := (by omega); have x2v : w.heap.size < w2.heap.size + 1 := (by omega); have x2u : w.heap.size + 1 < w2.heap.size + 1 := (by omega); have x2n : w1.heap.size < w2.heap.size + 1 := (by omega))
      | (go_at_call 14; ((with_reducible refine (no_any _ _).mono ?_); rintro e wx ⟨rfl, rfl⟩))
      | (go_at_call 7; ((with_reducible refine (H3.out _).mono ?_); rintro e w3 ⟨rfl, hb3⟩; obtain ⟨hc3, hf3⟩ := bcell hb3; have z3 : w2.heap.size + 1 ≤ w3.heap.size := (by simpa using hb3.size); have y3v : w.heap.size < w3.heap.size := (by omega); have y3u : w.heap.size + 1 < w3.heap.size := (by omega); have y3n : w1.heap.size < w3.heap.size := (by omega)))
      | (go_at_call 9; ((with_reducible refine (H4.out _).mono ?_); rintro e w4 ⟨rfl, hb4⟩; obtain ⟨hc4, hf4⟩ := bcell hb4; have z4 : w3.heap.size ≤ w4.heap.size := (by simpa using hb4.size); have y4v : w.heap.size < w4.heap.size := (by omega); have y4u : w.heap.size + 1 < w4.heap.size := (by omega); have y4n : w1.heap.size < w4.heap.size := (by omega)))
      | (go_at_call 15; ((with_reducible refine (H5.out _).mono ?_); rintro e w5 ⟨rfl, hb5⟩; obtain ⟨hc5, hf5⟩ := bcell hb5; have z5 : w4.heap.size ≤ w5.heap.size := (by simpa using hb5.size); have y5v : w.heap.size < w5.heap.size := (by omega); have y5u : w.heap.size + 1 < w5.heap.size := (by omega); have y5n : w1.heap.size < w5.heap.size := (by omega)))
      | (go_at_call 11; refine (alive_ok _).mono ?_; rintro e w9 ⟨rfl, hb9⟩))
    go_ret
    have hB1 : Below w.heap.size w w1 := (below2 w _ _).trans (hb1.mono (by simp; omega))
    have hB2 : Below w.heap.size w w2 := (hB1.alloc hB1.size _).trans (hb2.mono (by simp; omega))
    have hB3 : Below w.heap.size w w3 := (hB2.alloc hB2.size _).trans (hb3.mono (by simp; omega))
    have hB4 : Below w.heap.size w w4 := hB3.trans (hb4.mono (by omega))
    have hB5 : Below w.heap.size w w5 := hB4.trans (hb5.mono (by omega))
    exact ⟨rfl, hB5.trans (hb9.mono hB5.size)⟩

set_option maxRecDepth 100000 in
set_option maxHeartbeats 4000000 in
theorem nexts_wrong (v n u : Sv.V) (g : Int) (h : Sv.next v g = (n, 0)) (h3 : Sv.cmp v n = -1) (h4 : Sv.gap v n = g) (h5 : Sv.right n = true) (hr : (g == 1) = true ∨ ((g == 1) = false ∧ (u.c == 0) = true ∧ (g == 2) = true) ∨ ((g == 1) = false ∧ (u.c == 0) = true ∧ (g == 2) = false ∧ (u.b == 0) = true)) (h6 : Sv.right u = false) (w : World) : Calls Try.prog 4 #[vv v, .int .i64 g, vv u] w fun e w' => e = .returned (.bool true) ∧ Below w.heap.size w w' := by
  have H1 : RowKit.Hid (∀ w, Calls Try.prog 12 #[vv v, .int .i64 g] w fun e w' => e = .returned (.tuple #[vv n, .int .i64 0]) ∧ Below w.heap.size w w') := Lib.hid (fun w => by have := next_any v g w; rw [h] at this; exact this)
  have H2 : RowKit.Hid (∀ w, Calls Try.prog 13 #[vv v, .int .i64 g] w fun e w' => e = .returned (.tuple #[vv n, .int .i64 0]) ∧ Below w.heap.size w w') := Lib.hid (fun w => by have := refNext_any v g w; rw [h] at this; exact this)
  have H3 : RowKit.Hid (∀ w, Calls Try.prog 7 #[vv v, vv n] w fun e w' => e = .returned (.int .i64 (-1)) ∧ Below w.heap.size w w') := Lib.hid (fun w => by have := cmp_any v n w; rw [h3] at this; exact this)
  have H4 : RowKit.Hid (∀ w, Calls Try.prog 9 #[vv v, vv n] w fun e w' => e = .returned (.int .i64 g) ∧ Below w.heap.size w w') := Lib.hid (fun w => by have := gap_any v n w; rw [h4] at this; exact this)
  have H5 : RowKit.Hid (∀ w, Calls Try.prog 15 #[vv n] w fun e w' => e = .returned (.bool true) ∧ Below w.heap.size w w') := Lib.hid (fun w => by have := right_any n w; rw [h5] at this; exact this)
  clear h h3 h4 h5
  have H6 : RowKit.Hid (∀ w, Calls Try.prog 15 #[vv u] w fun e w' => e = .returned (.bool false) ∧ Below w.heap.size w w') := Lib.hid (fun w => by have := right_any u w; rw [h6] at this; exact this)
  clear h6

  rcases hr with r1 | ⟨r1, r2, r3⟩ | ⟨r1, r2, r3, r4⟩
  all_goals
    go_enter Try.func4, Try.ntmps4
    go_wp2_with (first
      | (go_at_call 12; refine (H1.out _).mono ?_; rintro e w1 ⟨rfl, hb1⟩; obtain ⟨hc1, hf1⟩ := bcell hb1; have z1 : w.heap.size + 1 + 1 ≤ w1.heap.size := (by simpa using hb1.size); have y1v : w.heap.size < w1.heap.size := (by omega); have y1u : w.heap.size + 1 < w1.heap.size := (by omega))
      | (go_at_call 13; refine (H2.out _).mono ?_; rintro e w2 ⟨rfl, hb2⟩; obtain ⟨hc2, hf2⟩ := bcell hb2; have z2 : w1.heap.size + 1 ≤ w2.heap.size := (by simpa using hb2.size); have y2v : w.heap.size < w2.heap.size := (by omega); have y2u : w.heap.size + 1 < w2.heap.size := (by omega); have y2n : w1.heap.size < w2.heap.size := (by omega); have x2v : w.heap.size < w2.heap.size + 1 := (by omega); have x2u : w.heap.size + 1 < w2.heap.size + 1 := (by omega); have x2n : w1.heap.size < w2.heap.size + 1 := (by omega))
      | (go_at_call 14; ((with_reducible refine (no_any _ _).mono ?_); rintro e wx ⟨rfl, rfl⟩))
      | (go_at_call 7; ((with_reducible refine (H3.out _).mono ?_); rintro e w3 ⟨rfl, hb3⟩; obtain ⟨hc3, hf3⟩ := bcell hb3; have z3 : w2.heap.size + 1 ≤ w3.heap.size := (by simpa using hb3.size); have y3v : w.heap.size < w3.heap.size := (by omega); have y3u : w.heap.size + 1 < w3.heap.size := (by omega); have y3n : w1.heap.size < w3.heap.size := (by omega)))
      | (go_at_call 9; ((with_reducible refine (H4.out _).mono ?_); rintro e w4 ⟨rfl, hb4⟩; obtain ⟨hc4, hf4⟩ := bcell hb4; have z4 : w3.heap.size ≤ w4.heap.size := (by simpa using hb4.size); have y4v : w.heap.size < w4.heap.size := (by omega); have y4u : w.heap.size + 1 < w4.heap.size := (by omega); have y4n : w1.heap.size < w4.heap.size := (by omega)))
      | (go_at_call 15; ((with_reducible refine (H5.out _).mono ?_); rintro e w5 ⟨rfl, hb5⟩; obtain ⟨hc5, hf5⟩ := bcell hb5; have z5 : w4.heap.size ≤ w5.heap.size := (by simpa using hb5.size); have y5v : w.heap.size < w5.heap.size := (by omega); have y5u : w.heap.size + 1 < w5.heap.size := (by omega); have y5n : w1.heap.size < w5.heap.size := (by omega)))
      | (go_at_call 15; ((with_reducible refine (H6.out _).mono ?_); rintro e w6 ⟨rfl, hb6⟩; obtain ⟨hc6, hf6⟩ := bcell hb6; have z6 : w5.heap.size ≤ w6.heap.size := (by simpa using hb6.size); have y6v : w.heap.size < w6.heap.size := (by omega); have y6u : w.heap.size + 1 < w6.heap.size := (by omega); have y6n : w1.heap.size < w6.heap.size := (by omega)))
      | (go_at_call 11; refine (alive_ok _).mono ?_; rintro e w9 ⟨rfl, hb9⟩))
    go_ret
    have hB1 : Below w.heap.size w w1 := (below2 w _ _).trans (hb1.mono (by simp; omega))
    have hB2 : Below w.heap.size w w2 := (hB1.alloc hB1.size _).trans (hb2.mono (by simp; omega))
    have hB3 : Below w.heap.size w w3 := (hB2.alloc hB2.size _).trans (hb3.mono (by simp; omega))
    have hB4 : Below w.heap.size w w4 := hB3.trans (hb4.mono (by omega))
    have hB5 : Below w.heap.size w w5 := hB4.trans (hb5.mono (by omega))
    have hB6 : Below w.heap.size w w6 := hB5.trans (hb6.mono (by omega))
    exact ⟨rfl, hB6.trans (hb9.mono hB6.size)⟩

set_option maxRecDepth 100000 in
set_option maxHeartbeats 4000000 in
theorem nexts_ahead (v n u : Sv.V) (g : Int) (h : Sv.next v g = (n, 0)) (h3 : Sv.cmp v n = -1) (h4 : Sv.gap v n = g) (h5 : Sv.right n = true) (hr : (g == 1) = true ∨ ((g == 1) = false ∧ (u.c == 0) = true ∧ (g == 2) = true) ∨ ((g == 1) = false ∧ (u.c == 0) = true ∧ (g == 2) = false ∧ (u.b == 0) = true)) (h6 : Sv.right u = true) (h7 : decide (Sv.cmp v u < 0) = false) (w : World) : Calls Try.prog 4 #[vv v, .int .i64 g, vv u] w fun e w' => e = .returned (.bool true) ∧ Below w.heap.size w w' := by
  have H1 : RowKit.Hid (∀ w, Calls Try.prog 12 #[vv v, .int .i64 g] w fun e w' => e = .returned (.tuple #[vv n, .int .i64 0]) ∧ Below w.heap.size w w') := Lib.hid (fun w => by have := next_any v g w; rw [h] at this; exact this)
  have H2 : RowKit.Hid (∀ w, Calls Try.prog 13 #[vv v, .int .i64 g] w fun e w' => e = .returned (.tuple #[vv n, .int .i64 0]) ∧ Below w.heap.size w w') := Lib.hid (fun w => by have := refNext_any v g w; rw [h] at this; exact this)
  have H3 : RowKit.Hid (∀ w, Calls Try.prog 7 #[vv v, vv n] w fun e w' => e = .returned (.int .i64 (-1)) ∧ Below w.heap.size w w') := Lib.hid (fun w => by have := cmp_any v n w; rw [h3] at this; exact this)
  have H4 : RowKit.Hid (∀ w, Calls Try.prog 9 #[vv v, vv n] w fun e w' => e = .returned (.int .i64 g) ∧ Below w.heap.size w w') := Lib.hid (fun w => by have := gap_any v n w; rw [h4] at this; exact this)
  have H5 : RowKit.Hid (∀ w, Calls Try.prog 15 #[vv n] w fun e w' => e = .returned (.bool true) ∧ Below w.heap.size w w') := Lib.hid (fun w => by have := right_any n w; rw [h5] at this; exact this)
  clear h h3 h4 h5
  have H6 : RowKit.Hid (∀ w, Calls Try.prog 15 #[vv u] w fun e w' => e = .returned (.bool true) ∧ Below w.heap.size w w') := Lib.hid (fun w => by have := right_any u w; rw [h6] at this; exact this)
  clear h6

  rcases hr with r1 | ⟨r1, r2, r3⟩ | ⟨r1, r2, r3, r4⟩
  all_goals
    go_enter Try.func4, Try.ntmps4
    go_wp2_with (first
      | (go_at_call 12; refine (H1.out _).mono ?_; rintro e w1 ⟨rfl, hb1⟩; obtain ⟨hc1, hf1⟩ := bcell hb1; have z1 : w.heap.size + 1 + 1 ≤ w1.heap.size := (by simpa using hb1.size); have y1v : w.heap.size < w1.heap.size := (by omega); have y1u : w.heap.size + 1 < w1.heap.size := (by omega))
      | (go_at_call 13; refine (H2.out _).mono ?_; rintro e w2 ⟨rfl, hb2⟩; obtain ⟨hc2, hf2⟩ := bcell hb2; have z2 : w1.heap.size + 1 ≤ w2.heap.size := (by simpa using hb2.size); have y2v : w.heap.size < w2.heap.size := (by omega); have y2u : w.heap.size + 1 < w2.heap.size := (by omega); have y2n : w1.heap.size < w2.heap.size := (by omega); have x2v : w.heap.size < w2.heap.size + 1 := (by omega); have x2u : w.heap.size + 1 < w2.heap.size + 1 := (by omega); have x2n : w1.heap.size < w2.heap.size + 1 := (by omega))
      | (go_at_call 14; ((with_reducible refine (no_any _ _).mono ?_); rintro e wx ⟨rfl, rfl⟩))
      | (go_at_call 7; ((with_reducible refine (H3.out _).mono ?_); rintro e w3 ⟨rfl, hb3⟩; obtain ⟨hc3, hf3⟩ := bcell hb3; have z3 : w2.heap.size + 1 ≤ w3.heap.size := (by simpa using hb3.size); have y3v : w.heap.size < w3.heap.size := (by omega); have y3u : w.heap.size + 1 < w3.heap.size := (by omega); have y3n : w1.heap.size < w3.heap.size := (by omega)))
      | (go_at_call 9; ((with_reducible refine (H4.out _).mono ?_); rintro e w4 ⟨rfl, hb4⟩; obtain ⟨hc4, hf4⟩ := bcell hb4; have z4 : w3.heap.size ≤ w4.heap.size := (by simpa using hb4.size); have y4v : w.heap.size < w4.heap.size := (by omega); have y4u : w.heap.size + 1 < w4.heap.size := (by omega); have y4n : w1.heap.size < w4.heap.size := (by omega)))
      | (go_at_call 15; ((with_reducible refine (H5.out _).mono ?_); rintro e w5 ⟨rfl, hb5⟩; obtain ⟨hc5, hf5⟩ := bcell hb5; have z5 : w4.heap.size ≤ w5.heap.size := (by simpa using hb5.size); have y5v : w.heap.size < w5.heap.size := (by omega); have y5u : w.heap.size + 1 < w5.heap.size := (by omega); have y5n : w1.heap.size < w5.heap.size := (by omega)))
      | (go_at_call 15; ((with_reducible refine (H6.out _).mono ?_); rintro e w6 ⟨rfl, hb6⟩; obtain ⟨hc6, hf6⟩ := bcell hb6; have z6 : w5.heap.size ≤ w6.heap.size := (by simpa using hb6.size); have y6v : w.heap.size < w6.heap.size := (by omega); have y6u : w.heap.size + 1 < w6.heap.size := (by omega); have y6n : w1.heap.size < w6.heap.size := (by omega)))
      | (go_at_call 7; ((with_reducible refine (cmp_any v u _).mono ?_); rintro e w7 ⟨rfl, hb7⟩; obtain ⟨hc7, hf7⟩ := bcell hb7; have z7 : w6.heap.size ≤ w7.heap.size := (by simpa using hb7.size); have y7v : w.heap.size < w7.heap.size := (by omega); have y7u : w.heap.size + 1 < w7.heap.size := (by omega); have y7n : w1.heap.size < w7.heap.size := (by omega)))
      | (go_at_call 11; refine (alive_ok _).mono ?_; rintro e w9 ⟨rfl, hb9⟩))
    go_ret
    have hB1 : Below w.heap.size w w1 := (below2 w _ _).trans (hb1.mono (by simp; omega))
    have hB2 : Below w.heap.size w w2 := (hB1.alloc hB1.size _).trans (hb2.mono (by simp; omega))
    have hB3 : Below w.heap.size w w3 := (hB2.alloc hB2.size _).trans (hb3.mono (by simp; omega))
    have hB4 : Below w.heap.size w w4 := hB3.trans (hb4.mono (by omega))
    have hB5 : Below w.heap.size w w5 := hB4.trans (hb5.mono (by omega))
    have hB6 : Below w.heap.size w w6 := hB5.trans (hb6.mono (by omega))
    have hB7 : Below w.heap.size w w7 := hB6.trans (hb7.mono (by omega))
    exact ⟨rfl, hB7.trans (hb9.mono hB7.size)⟩

set_option maxRecDepth 100000 in
set_option maxHeartbeats 4000000 in
theorem nexts_behind (v n u : Sv.V) (g : Int) (h : Sv.next v g = (n, 0)) (h3 : Sv.cmp v n = -1) (h4 : Sv.gap v n = g) (h5 : Sv.right n = true) (hr : (g == 1) = true ∨ ((g == 1) = false ∧ (u.c == 0) = true ∧ (g == 2) = true) ∨ ((g == 1) = false ∧ (u.c == 0) = true ∧ (g == 2) = false ∧ (u.b == 0) = true)) (h6 : Sv.right u = true) (h7 : decide (Sv.cmp v u < 0) = true) (h8 : decide (Sv.cmp u n < 0) = false) (w : World) : Calls Try.prog 4 #[vv v, .int .i64 g, vv u] w fun e w' => e = .returned (.bool true) ∧ Below w.heap.size w w' := by
  have H1 : RowKit.Hid (∀ w, Calls Try.prog 12 #[vv v, .int .i64 g] w fun e w' => e = .returned (.tuple #[vv n, .int .i64 0]) ∧ Below w.heap.size w w') := Lib.hid (fun w => by have := next_any v g w; rw [h] at this; exact this)
  have H2 : RowKit.Hid (∀ w, Calls Try.prog 13 #[vv v, .int .i64 g] w fun e w' => e = .returned (.tuple #[vv n, .int .i64 0]) ∧ Below w.heap.size w w') := Lib.hid (fun w => by have := refNext_any v g w; rw [h] at this; exact this)
  have H3 : RowKit.Hid (∀ w, Calls Try.prog 7 #[vv v, vv n] w fun e w' => e = .returned (.int .i64 (-1)) ∧ Below w.heap.size w w') := Lib.hid (fun w => by have := cmp_any v n w; rw [h3] at this; exact this)
  have H4 : RowKit.Hid (∀ w, Calls Try.prog 9 #[vv v, vv n] w fun e w' => e = .returned (.int .i64 g) ∧ Below w.heap.size w w') := Lib.hid (fun w => by have := gap_any v n w; rw [h4] at this; exact this)
  have H5 : RowKit.Hid (∀ w, Calls Try.prog 15 #[vv n] w fun e w' => e = .returned (.bool true) ∧ Below w.heap.size w w') := Lib.hid (fun w => by have := right_any n w; rw [h5] at this; exact this)
  clear h h3 h4 h5
  have H6 : RowKit.Hid (∀ w, Calls Try.prog 15 #[vv u] w fun e w' => e = .returned (.bool true) ∧ Below w.heap.size w w') := Lib.hid (fun w => by have := right_any u w; rw [h6] at this; exact this)
  clear h6

  rcases hr with r1 | ⟨r1, r2, r3⟩ | ⟨r1, r2, r3, r4⟩
  all_goals
    go_enter Try.func4, Try.ntmps4
    go_wp2_with (first
      | (go_at_call 12; refine (H1.out _).mono ?_; rintro e w1 ⟨rfl, hb1⟩; obtain ⟨hc1, hf1⟩ := bcell hb1; have z1 : w.heap.size + 1 + 1 ≤ w1.heap.size := (by simpa using hb1.size); have y1v : w.heap.size < w1.heap.size := (by omega); have y1u : w.heap.size + 1 < w1.heap.size := (by omega))
      | (go_at_call 13; refine (H2.out _).mono ?_; rintro e w2 ⟨rfl, hb2⟩; obtain ⟨hc2, hf2⟩ := bcell hb2; have z2 : w1.heap.size + 1 ≤ w2.heap.size := (by simpa using hb2.size); have y2v : w.heap.size < w2.heap.size := (by omega); have y2u : w.heap.size + 1 < w2.heap.size := (by omega); have y2n : w1.heap.size < w2.heap.size := (by omega); have x2v : w.heap.size < w2.heap.size + 1 := (by omega); have x2u : w.heap.size + 1 < w2.heap.size + 1 := (by omega); have x2n : w1.heap.size < w2.heap.size + 1 := (by omega))
      | (go_at_call 14; ((with_reducible refine (no_any _ _).mono ?_); rintro e wx ⟨rfl, rfl⟩))
      | (go_at_call 7; ((with_reducible refine (H3.out _).mono ?_); rintro e w3 ⟨rfl, hb3⟩; obtain ⟨hc3, hf3⟩ := bcell hb3; have z3 : w2.heap.size + 1 ≤ w3.heap.size := (by simpa using hb3.size); have y3v : w.heap.size < w3.heap.size := (by omega); have y3u : w.heap.size + 1 < w3.heap.size := (by omega); have y3n : w1.heap.size < w3.heap.size := (by omega)))
      | (go_at_call 9; ((with_reducible refine (H4.out _).mono ?_); rintro e w4 ⟨rfl, hb4⟩; obtain ⟨hc4, hf4⟩ := bcell hb4; have z4 : w3.heap.size ≤ w4.heap.size := (by simpa using hb4.size); have y4v : w.heap.size < w4.heap.size := (by omega); have y4u : w.heap.size + 1 < w4.heap.size := (by omega); have y4n : w1.heap.size < w4.heap.size := (by omega)))
      | (go_at_call 15; ((with_reducible refine (H5.out _).mono ?_); rintro e w5 ⟨rfl, hb5⟩; obtain ⟨hc5, hf5⟩ := bcell hb5; have z5 : w4.heap.size ≤ w5.heap.size := (by simpa using hb5.size); have y5v : w.heap.size < w5.heap.size := (by omega); have y5u : w.heap.size + 1 < w5.heap.size := (by omega); have y5n : w1.heap.size < w5.heap.size := (by omega)))
      | (go_at_call 15; ((with_reducible refine (H6.out _).mono ?_); rintro e w6 ⟨rfl, hb6⟩; obtain ⟨hc6, hf6⟩ := bcell hb6; have z6 : w5.heap.size ≤ w6.heap.size := (by simpa using hb6.size); have y6v : w.heap.size < w6.heap.size := (by omega); have y6u : w.heap.size + 1 < w6.heap.size := (by omega); have y6n : w1.heap.size < w6.heap.size := (by omega)))
      | (go_at_call 7; ((with_reducible refine (cmp_any v u _).mono ?_); rintro e w7 ⟨rfl, hb7⟩; obtain ⟨hc7, hf7⟩ := bcell hb7; have z7 : w6.heap.size ≤ w7.heap.size := (by simpa using hb7.size); have y7v : w.heap.size < w7.heap.size := (by omega); have y7u : w.heap.size + 1 < w7.heap.size := (by omega); have y7n : w1.heap.size < w7.heap.size := (by omega)))
      | (go_at_call 7; ((with_reducible refine (cmp_any u n _).mono ?_); rintro e w8 ⟨rfl, hb8⟩; obtain ⟨hc8, hf8⟩ := bcell hb8; have z8 : w7.heap.size ≤ w8.heap.size := (by simpa using hb8.size); have y8v : w.heap.size < w8.heap.size := (by omega); have y8u : w.heap.size + 1 < w8.heap.size := (by omega); have y8n : w1.heap.size < w8.heap.size := (by omega)))
      | (go_at_call 11; refine (alive_ok _).mono ?_; rintro e w9 ⟨rfl, hb9⟩))
    go_ret
    have hB1 : Below w.heap.size w w1 := (below2 w _ _).trans (hb1.mono (by simp; omega))
    have hB2 : Below w.heap.size w w2 := (hB1.alloc hB1.size _).trans (hb2.mono (by simp; omega))
    have hB3 : Below w.heap.size w w3 := (hB2.alloc hB2.size _).trans (hb3.mono (by simp; omega))
    have hB4 : Below w.heap.size w w4 := hB3.trans (hb4.mono (by omega))
    have hB5 : Below w.heap.size w w5 := hB4.trans (hb5.mono (by omega))
    have hB6 : Below w.heap.size w w6 := hB5.trans (hb6.mono (by omega))
    have hB7 : Below w.heap.size w w7 := hB6.trans (hb7.mono (by omega))
    have hB8 : Below w.heap.size w w8 := hB7.trans (hb8.mono (by omega))
    exact ⟨rfl, hB8.trans (hb9.mono hB8.size)⟩

end Go.Proofs.Ytmgnbpgcbehidaa
