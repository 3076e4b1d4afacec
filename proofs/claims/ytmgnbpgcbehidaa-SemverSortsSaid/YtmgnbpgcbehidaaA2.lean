/- Contracts: the document's Compare, both Gaps, cmp.Or of three numbers, Compare of two versions. -/
import Derived.Test.YtmgnbpgcbehidaaA1
namespace Go.Proofs.Ytmgnbpgcbehidaa
open Go.RowKit

theorem below2 (w : World) (o1 o2 : Obj) : Below w.heap.size w ((w.alloc o1).alloc o2) := (below_alloc _ _).trans ((below_alloc _ _).mono (by simp))
theorem refCmp_any (x y : Sv.V) (w : World) : Calls Try.prog 8 #[vv x, vv y] w fun e w' => e = .returned (.int .i64 (Sv.cmp x y)) ∧ Below w.heap.size w w' := by
  have HC : RowKit.Hid (Sv.cmp x y = if Sv.less x y then -1 else if Sv.less y x then 1 else 0) := by unfold Sv.cmp; exact Lib.hid rfl
  rcases h1 : Sv.less x y
  · rcases h2 : Sv.less y x
    · have H1 := Lib.hid h1
      have H2 := Lib.hid h2
      clear h1 h2
      go_enter Try.func8, Try.ntmps8
      go_wp2_with (first
        | (go_at_call 25; ((with_reducible refine (less_any x y _).mono ?_); rintro e w1 ⟨rfl, hb1⟩; rw [H1.out]; obtain ⟨hc1, hf1⟩ := bcell hb1))
        | (go_at_call 25; ((with_reducible refine (less_any y x _).mono ?_); rintro e w2 ⟨rfl, hb2⟩; rw [H2.out])))
      go_ret
      have z1 := hb1.size
      exact ⟨ret_int (by rw [HC.out, H1.out, H2.out]; rfl), ((below2 w _ _).trans (hb1.mono (by simp; omega))).trans (hb2.mono (by simp at z1; omega))⟩
    · have H1 := Lib.hid h1
      have H2 := Lib.hid h2
      clear h1 h2
      go_enter Try.func8, Try.ntmps8
      go_wp2_with (first
        | (go_at_call 25; ((with_reducible refine (less_any x y _).mono ?_); rintro e w1 ⟨rfl, hb1⟩; rw [H1.out]; obtain ⟨hc1, hf1⟩ := bcell hb1))
        | (go_at_call 25; ((with_reducible refine (less_any y x _).mono ?_); rintro e w2 ⟨rfl, hb2⟩; rw [H2.out])))
      go_ret
      have z1 := hb1.size
      exact ⟨ret_int (by rw [HC.out, H1.out, H2.out]; rfl), ((below2 w _ _).trans (hb1.mono (by simp; omega))).trans (hb2.mono (by simp at z1; omega))⟩
  · have H1 := Lib.hid h1
    clear h1
    go_enter Try.func8, Try.ntmps8
    go_wp2_with (first
        | (go_at_call 25; ((with_reducible refine (less_any x y _).mono ?_); rintro e w1 ⟨rfl, hb1⟩; rw [H1.out]; obtain ⟨hc1, hf1⟩ := bcell hb1)))
    go_ret
    exact ⟨ret_int (by rw [HC.out, H1.out]; rfl), (below2 w _ _).trans (hb1.mono (by simp; omega))⟩
theorem gap_any (x y : Sv.V) (w : World) : Calls Try.prog 9 #[vv x, vv y] w fun e w' => e = .returned (.int .i64 (Sv.gap x y)) ∧ Below w.heap.size w w' := by
  go_enter Try.func9, Try.ntmps9
  go_wp2
  all_goals
    go_ret
    exact ⟨ret_int (by unfold Sv.gap; simp_all), below2 w _ _⟩
theorem refGap_any (x y : Sv.V) (w : World) : Calls Try.prog 10 #[vv x, vv y] w fun e w' => e = .returned (.int .i64 (Sv.gap x y)) ∧ Below w.heap.size w w' := by
  go_enter Try.func10, Try.ntmps10
  go_wp2
  all_goals
    go_ret
    exact ⟨ret_int (by unfold Sv.gap; simp_all), below2 w _ _⟩
theorem or_any (x y z : Int) (w : World) (a : Nat) (h : w.heap[a]? = some (.cells #[.int .i64 x, .int .i64 y, .int .i64 z] 3 (0,0))) : Calls Try.prog 23 #[.slice (some ⟨a, 0, none⟩) 3 3] w fun e w' => e = .returned (.int .i64 (Sv.orI x y z)) ∧ w = w' := by
  have h0 := hb_at h 0 rfl
  have h1 := hb_at h 1 rfl
  have h2 := hb_at h 2 rfl
  have H := Lib.hid h
  clear h
  go_enter Try.func23, Try.ntmps23
  go_wp2
  go_loop [8] (fun i => i = .int .i64 0 ∨ (i = .int .i64 1 ∧ x = 0) ∨ (i = .int .i64 2 ∧ x = 0 ∧ y = 0) ∨ (i = .int .i64 3 ∧ x = 0 ∧ y = 0 ∧ z = 0)) (fun i => 3 - (intOf i).toNat)
  case atStart => exact .inl rfl
  case round =>
    rcases hrel with rfl | ⟨rfl, hx⟩ | ⟨rfl, hx, hy⟩ | ⟨rfl, hx, hy, hz⟩
    · by_cases hx : x = 0
      · have e : (x != 0) = false := by simpa using hx
        have H2 := Lib.hid hx
        clear hx
        go_wp2
        go_round
        case rel => exact .inr (.inl ⟨rfl, H2.out⟩)
        case measure => simp [intOf]
      · have e : (x != 0) = true := by simpa using hx
        have H2 := Lib.hid hx
        clear hx
        go_wp2
        go_ret
        exact ⟨ret_int (by unfold Sv.orI; rw [if_pos H2.out]), rfl⟩
    · by_cases hy : y = 0
      · have e : (y != 0) = false := by simpa using hy
        have H1 := Lib.hid hx
        have H2 := Lib.hid hy
        clear hx hy
        go_wp2
        go_round
        case rel => exact .inr (.inr (.inl ⟨rfl, H1.out, H2.out⟩))
        case measure => simp [intOf]
      · have e : (y != 0) = true := by simpa using hy
        have H1 := Lib.hid hx
        have H2 := Lib.hid hy
        clear hx hy
        go_wp2
        go_ret
        exact ⟨ret_int (by unfold Sv.orI; rw [if_neg (by simpa using H1.out), if_pos H2.out]), rfl⟩
    · by_cases hz : z = 0
      · have e : (z != 0) = false := by simpa using hz
        have H1 := Lib.hid hx
        have H2 := Lib.hid hy
        have H3 := Lib.hid hz
        clear hx hy hz
        go_wp2
        go_round
        case rel => exact .inr (.inr (.inr ⟨rfl, H1.out, H2.out, H3.out⟩))
        case measure => simp [intOf]
      · have e : (z != 0) = true := by simpa using hz
        have H1 := Lib.hid hx
        have H2 := Lib.hid hy
        have H3 := Lib.hid hz
        clear hx hy hz
        go_wp2
        go_ret
        exact ⟨ret_int (by unfold Sv.orI; rw [if_neg (by simpa using H1.out), if_neg (by simpa using H2.out)]), rfl⟩
    · have H1 := Lib.hid hx
      have H2 := Lib.hid hy
      have H3 := Lib.hid hz
      clear hx hy hz
      go_wp2
      go_ret
      exact ⟨ret_int (by unfold Sv.orI; rw [if_neg (by simpa using H1.out), if_neg (by simpa using H2.out), H3.out]), rfl⟩
end Go.Proofs.Ytmgnbpgcbehidaa
