
/- Contracts: numbersOf, version, Right both, in. -/
import Derived.Test.YtfbfdkjimoomlaaA2
namespace Go.Proofs.Ytfbfdkjimoomlaa
open Go.RowKit
namespace Sv
def inR (n : Int) : Bool := decide (0 ≤ n ∧ n ≤ 999999)
def right (v : V) : Bool := inR v.a && inR v.b && inR v.c
theorem inR_yes {n : Int} (h : inR n = true) : 0 ≤ n ∧ n ≤ 999999 := by unfold inR at h; exact of_decide_eq_true h
theorem inR_no {n : Int} (h : inR n = false) : n < 0 ∨ (0 ≤ n ∧ 999999 < n) := by
  unfold inR at h
  have := of_decide_eq_false h
  omega
end Sv
theorem numbersOf_any (x : Sv.V) (w : World) : Calls Try.prog 53 #[vv x] w fun e w' => e = .returned (.agg #[.int .i64 x.a, .int .i64 x.b, .int .i64 x.c]) ∧ Below w.heap.size w w' := by
  go_enter Try.func53, Try.ntmps53
  go_wp2
  exact bodyPost_ret (v := .agg #[.int .i64 x.a, .int .i64 x.b, .int .i64 x.c]) (by simp [results, Try.results53, go_sem]) rfl ⟨rfl, below2 w _ _⟩
theorem in_any (n : Int) (w : World) : Calls Try.prog 67 #[.int .i64 n] w fun e w' => e = .returned (.bool (Sv.inR n)) ∧ w = w' := by
  by_cases h0 : 0 ≤ n
  · have H := Lib.hid h0
    go_enter Try.func67, Try.ntmps67
    go_wp2
    go_ret
    exact ⟨ret_bool (by unfold Sv.inR; simp [H.out]), rfl⟩
  · have H := Lib.hid h0
    go_enter Try.func67, Try.ntmps67
    go_wp2
    go_ret
    exact ⟨ret_bool (by have := H.out; unfold Sv.inR; symm; rw [decide_eq_false_iff_not]; omega), rfl⟩
theorem refRight_any (x : Sv.V) (w : World) : Calls Try.prog 57 #[vv x] w fun e w' => e = .returned (.bool (Sv.right x)) ∧ Below w.heap.size w w' := by
  have HR : RowKit.Hid (Sv.right x = (Sv.inR x.a && Sv.inR x.b && Sv.inR x.c)) := Lib.hid rfl
  rcases ha : Sv.inR x.a <;> rcases hb : Sv.inR x.b <;> rcases hc : Sv.inR x.c
  all_goals
    have HA := Lib.hid ha
    have HB := Lib.hid hb
    have HC := Lib.hid hc
    clear ha hb hc
    go_enter Try.func57, Try.ntmps57
    go_wp2_with (first
      | (go_at_call 67; ((with_reducible refine (in_any x.a _).mono ?_); rintro e w1 ⟨rfl, rfl⟩; rw [HA.out]))
      | (go_at_call 67; ((with_reducible refine (in_any x.b _).mono ?_); rintro e w1 ⟨rfl, rfl⟩; rw [HB.out]))
      | (go_at_call 67; ((with_reducible refine (in_any x.c _).mono ?_); rintro e w1 ⟨rfl, rfl⟩; rw [HC.out])))
    go_ret
    exact ⟨ret_bool (by rw [HR.out, HA.out, HB.out, HC.out]; rfl), below_alloc _ _⟩
theorem ix0 (x : Sv.V) : ∀ w, (Instr.index 101 (vv x) (.int .i64 0)).run Try.prog w = .ok (.int .i64 x.a) w := fun _ => by kernel_rfl
theorem ix1 (x : Sv.V) : ∀ w, (Instr.index 101 (vv x) (.int .i64 1)).run Try.prog w = .ok (.int .i64 x.b) w := fun _ => by kernel_rfl
theorem ix2 (x : Sv.V) : ∀ w, (Instr.index 101 (vv x) (.int .i64 2)).run Try.prog w = .ok (.int .i64 x.c) w := fun _ => by kernel_rfl
theorem right_any (x : Sv.V) (w : World) : Calls Try.prog 32 #[vv x] w fun e w' => e = .returned (.bool (Sv.right x)) ∧ Below w.heap.size w w' := by
  have HR : RowKit.Hid (Sv.right x = (Sv.inR x.a && Sv.inR x.b && Sv.inR x.c)) := Lib.hid rfl
  have i0 := ix0 x
  have i1 := ix1 x
  have i2 := ix2 x
  go_enter Try.func32, Try.ntmps32
  go_wp2_with (go_at_call 53; refine (numbersOf_any _ _).mono ?_; rintro e w1 ⟨rfl, hb1⟩)
  have HB := Lib.hid ((below_alloc w (.cells #[.int .i64 x.a, .int .i64 x.b, .int .i64 x.c] 23)).trans (hb1.mono (by simp)))
  clear hb1
  go_loop [7] (fun i => i = .int .i64 0 ∨ (i = .int .i64 1 ∧ Sv.inR x.a = true) ∨ (i = .int .i64 2 ∧ Sv.inR x.a = true ∧ Sv.inR x.b = true) ∨ (i = .int .i64 3 ∧ Sv.inR x.a = true ∧ Sv.inR x.b = true ∧ Sv.inR x.c = true)) (fun i => 3 - (intOf i).toNat)
  case atStart => exact .inl rfl
  case round =>
    rcases hrel with rfl | ⟨rfl, g0⟩ | ⟨rfl, g0, g1⟩ | ⟨rfl, g0, g1, g2⟩
    · skip
      rcases Bool.eq_false_or_eq_true (Sv.inR x.a) with h | h
      rotate_left
      · rcases Sv.inR_no h with h1 | ⟨h1, h2⟩
        · have d1 : decide (x.a < 0) = true := by simpa using h1
          have H := Lib.hid h
          clear h h1
          go_wp2
          go_ret
          exact ⟨ret_bool (by rw [HR.out, H.out]; simp), HB.out⟩
        · have d1 : decide (x.a < 0) = false := by simp; omega
          have d2 : decide (999999 < x.a) = true := by simpa using h2
          have H := Lib.hid h
          clear h h1 h2
          go_wp2
          go_ret
          exact ⟨ret_bool (by rw [HR.out, H.out]; simp), HB.out⟩
      · obtain ⟨h1, h2⟩ := Sv.inR_yes h
        have d1 : decide (x.a < 0) = false := by simp; omega
        have d2 : decide (999999 < x.a) = false := by simp; omega
        have H := Lib.hid h
        clear h h1 h2
        go_wp2
        go_round
        case rel => exact .inr (.inl ⟨rfl, H.out⟩)
        case measure => simp [intOf]
    · have G0 := Lib.hid g0; clear g0; skip
      rcases Bool.eq_false_or_eq_true (Sv.inR x.b) with h | h
      rotate_left
      · rcases Sv.inR_no h with h1 | ⟨h1, h2⟩
        · have d1 : decide (x.b < 0) = true := by simpa using h1
          have H := Lib.hid h
          clear h h1
          go_wp2
          go_ret
          exact ⟨ret_bool (by rw [HR.out, G0.out, H.out]; simp), HB.out⟩
        · have d1 : decide (x.b < 0) = false := by simp; omega
          have d2 : decide (999999 < x.b) = true := by simpa using h2
          have H := Lib.hid h
          clear h h1 h2
          go_wp2
          go_ret
          exact ⟨ret_bool (by rw [HR.out, G0.out, H.out]; simp), HB.out⟩
      · obtain ⟨h1, h2⟩ := Sv.inR_yes h
        have d1 : decide (x.b < 0) = false := by simp; omega
        have d2 : decide (999999 < x.b) = false := by simp; omega
        have H := Lib.hid h
        clear h h1 h2
        go_wp2
        go_round
        case rel => exact .inr (.inr (.inl ⟨rfl, G0.out, H.out⟩))
        case measure => simp [intOf]
    · have G0 := Lib.hid g0; clear g0; have G1 := Lib.hid g1; clear g1; skip
      rcases Bool.eq_false_or_eq_true (Sv.inR x.c) with h | h
      rotate_left
      · rcases Sv.inR_no h with h1 | ⟨h1, h2⟩
        · have d1 : decide (x.c < 0) = true := by simpa using h1
          have H := Lib.hid h
          clear h h1
          go_wp2
          go_ret
          exact ⟨ret_bool (by rw [HR.out, G0.out, G1.out, H.out]; simp), HB.out⟩
        · have d1 : decide (x.c < 0) = false := by simp; omega
          have d2 : decide (999999 < x.c) = true := by simpa using h2
          have H := Lib.hid h
          clear h h1 h2
          go_wp2
          go_ret
          exact ⟨ret_bool (by rw [HR.out, G0.out, G1.out, H.out]; simp), HB.out⟩
      · obtain ⟨h1, h2⟩ := Sv.inR_yes h
        have d1 : decide (x.c < 0) = false := by simp; omega
        have d2 : decide (999999 < x.c) = false := by simp; omega
        have H := Lib.hid h
        clear h h1 h2
        go_wp2
        go_round
        case rel => exact .inr (.inr (.inr ⟨rfl, G0.out, G1.out, H.out⟩))
        case measure => simp [intOf]
    · have G0 := Lib.hid g0; clear g0; have G1 := Lib.hid g1; clear g1; have G2 := Lib.hid g2; clear g2; skip
      go_wp2
      go_ret
      exact ⟨ret_bool (by rw [HR.out, G0.out, G1.out, G2.out]; rfl), HB.out⟩
end Go.Proofs.Ytfbfdkjimoomlaa
