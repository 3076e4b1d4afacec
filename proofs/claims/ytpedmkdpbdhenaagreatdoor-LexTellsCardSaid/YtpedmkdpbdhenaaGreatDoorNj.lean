/- The document's Right. -/
import Derived.Test.YtpedmkdpbdhenaaGreatDoorNi
import Derived.Test.YtpedmkdpbdhenaaGreatDoorMe
namespace Go.Proofs.YtpedmkdpbdhenaaGreatDoor
open Go.RowKit
set_option linter.unusedSimpArgs false
set_option linter.unusedVariables false
set_option maxHeartbeats 8000000 in
set_option maxRecDepth 100000 in
theorem right_doc (t : Tk) (a : Int) (hm : t.s.size ≤ 1000000) (w : World) :
    Calls Tryz.prog 9 #[t.v a] w fun e w' => e = .returned (.bool (rightB t)) ∧ Below w.heap.size w w' := by
  have hI := right_iff t
  have HT0 := Lib.hid (fun hf W => told_doc t a (by omega) hf W)
  have hlen := fun h1 h2 => tellT_len t h1 h2
  have hlen4 : t.k ≠ 4 → (tellT t).length ≤ 2 * t.s.size + 22 := by
    intro h4
    have hl := tellT_len ⟨t.k, t.s, 0⟩ (by simp) (by simp)
    have e : tellT ⟨t.k, t.s, 0⟩ = tellT t := by unfold tellT; simp only [if_neg h4]
    rw [e] at hl
    exact hl
  obtain ⟨L, hL⟩ : ∃ L, tellT t = L := ⟨_, rfl⟩
  rw [hL] at hI HT0 hlen hlen4
  obtain ⟨D, hD⟩ : ∃ D, ofL L = D := ⟨_, rfl⟩
  have hDs : D.size = L.length := by rw [← hD, ofL_size]
  have hDL : D.data.toList = L := by rw [← hD]
  rw [hD] at HT0
  rw [← hDL, len_list] at hI
  obtain ⟨k, s, n⟩ := t
  have hm' : s.size ≤ 1000000 := hm
  have hI' : RightT ⟨k, s, n⟩ ↔ (1 ≤ k ∧ k ≤ 8 ∧ s.size ≤ 1000 ∧ (k = 4 → -999999999999999999 ≤ n ∧ n ≤ 999999999999999999) ∧ 0 < D.size ∧ oneT D.data.toList = (⟨k, s, n⟩, D.size)) := hI
  have HT : RowKit.Hid ((k = 4 → -999999999999999999 ≤ n ∧ n ≤ 999999999999999999) → ∀ W, Calls Tryz.prog 17 #[.agg #[.int .i64 k, .string s, .int .i64 n, .int .i64 a]] W fun e w' => e = .returned (.string D) ∧ Below W.heap.size W w') := HT0
  have hlen' : -9223372036854775808 ≤ n → n ≤ 9223372036854775807 → L.length ≤ 2 * s.size + 22 := hlen
  have hlen4' : k ≠ 4 → L.length ≤ 2 * s.size + 22 := hlen4
  clear hI HT0 hlen hlen4 hL hD hm
  unfold Tk.v
  show Calls Tryz.prog 9 #[.agg #[.int .i64 k, .string s, .int .i64 n, .int .i64 a]] w _
  by_cases h1 : k < 1
  · have d1 : decide (k < 1) = true := by simpa using h1
    have HB := Lib.hid (rightB_no (fun h => by have := (hI'.1 h).1; omega))
    clear hI' hDs hDL
    go_enter Tryz.func9, Tryz.ntmps9
    go_wp2
    go_ret
    exact ⟨ret_bool HB.out.symm, below_alloc w _⟩
  have d1 : decide (k < 1) = false := by simpa using h1
  by_cases h2 : 8 < k
  · have d2 : decide (8 < k) = true := by simpa using h2
    have HB := Lib.hid (rightB_no (fun h => by have := (hI'.1 h).2.1; omega))
    clear hI' hDs hDL
    go_enter Tryz.func9, Tryz.ntmps9
    go_wp2
    go_ret
    exact ⟨ret_bool HB.out.symm, below_alloc w _⟩
  have d2 : decide (8 < k) = false := by simpa using h2
  by_cases h3 : 1000 < s.size
  · have d3 : decide ((1000 : Int) < (s.size : Int)) = true := by simp; omega
    have HB := Lib.hid (rightB_no (fun h => by have := (hI'.1 h).2.2.1; omega))
    clear hI' hDs hDL
    go_enter Tryz.func9, Tryz.ntmps9
    go_wp2
    go_ret
    exact ⟨ret_bool HB.out.symm, below_alloc w _⟩
  have d3 : decide ((1000 : Int) < (s.size : Int)) = false := by simp; omega
  have hrange : (k = 4 ∧ (n < -999999999999999999 ∨ (¬ n < -999999999999999999 ∧ 999999999999999999 < n))) ∨ (k = 4 → -999999999999999999 ≤ n ∧ n ≤ 999999999999999999) := by omega
  rcases hrange with ⟨h4, h5⟩ | h4
  · have HB := Lib.hid (rightB_no (fun h => by have := (hI'.1 h).2.2.2.1 h4; omega))
    subst h4
    clear hI' hDs hDL
    rcases h5 with h5 | ⟨h5, h6⟩
    · have d5 : decide (n < -999999999999999999) = true := by simpa using h5
      go_enter Tryz.func9, Tryz.ntmps9
      go_wp2
      go_ret
      exact ⟨ret_bool HB.out.symm, below_alloc w _⟩
    · have d5 : decide (n < -999999999999999999) = false := by simpa using h5
      have d6 : decide (999999999999999999 < n) = true := by simpa using h6
      go_enter Tryz.func9, Tryz.ntmps9
      go_wp2
      go_ret
      exact ⟨ret_bool HB.out.symm, below_alloc w _⟩
  have HTT := Lib.hid (HT.out h4)
  have hLl : L.length ≤ 2 * s.size + 22 := by
    by_cases hk4 : k = 4
    · have := h4 hk4
      exact hlen' (by omega) (by omega)
    · exact hlen4' hk4
  have hDm : D.size ≤ 4194304 := by omega
  have G : (k = 4 ∧ (k == 4) = true ∧ decide (n < -999999999999999999) = false ∧ decide (999999999999999999 < n) = false) ∨ ((k == 4) = false) := by
    by_cases hk4 : k = 4
    · have := h4 hk4
      exact .inl ⟨hk4, by simpa using hk4, by simp; omega, by simp; omega⟩
    · exact .inr (by simpa using hk4)
  clear hlen' hlen4' HT hDs hDL hLl
  have HEAD : RowKit.Hid True := Lib.hid trivial
  by_cases hz : D.size = 0
  · have hDe : (D.toList == []) = true := by
      rw [ByteArray.toList_eq, beq_iff_eq]
      apply List.eq_nil_of_length_eq_zero
      rw [len_list]; exact hz
    have HB := Lib.hid (rightB_no (fun h => by have := (hI'.1 h).2.2.2.2.1; omega))
    clear hI' h4 hz
    rcases G with ⟨rfl, g1, g2, g3⟩ | g1
    all_goals
      go_enter Tryz.func9, Tryz.ntmps9
      go_wp2_with (go_at_call 17; with_reducible refine (HTT.out _).mono ?_; rintro e w1 ⟨rfl, hb⟩)
      go_ret
      exact ⟨ret_bool HB.out.symm, (below_alloc w _).trans (hb.mono (by simp))⟩
  have hDe : (D.toList == []) = false := by
    rw [beq_eq_false_iff_ne]
    intro e
    have := congrArg List.length e
    rw [ByteArray.toList_eq, len_list] at this
    exact hz this
  have HO := Lib.hid (fun W => one_doc D hDm (by omega) W)
  obtain ⟨T, hT⟩ : ∃ T, oneT D.data.toList = T := ⟨_, rfl⟩
  rw [hT] at HO hI'
  obtain ⟨⟨uk, us, un⟩, m⟩ := T
  have HO2 : RowKit.Hid (∀ W, Calls Tryz.prog 19 #[.string D, .int .i64 0] W fun e w' => e = .returned (.tuple #[.agg #[.int .i64 uk, .string us, .int .i64 un, .int .i64 0], .int .i64 (m : Nat)]) ∧ Below W.heap.size W w') := HO
  clear HO hT
  have hI2 : RightT ⟨k, s, n⟩ ↔ (m = D.size ∧ uk = k ∧ us = s ∧ un = n) := by
    rw [hI']
    constructor
    · rintro ⟨_, _, _, _, _, h⟩
      cases h
      exact ⟨rfl, rfl, rfl, rfl⟩
    · rintro ⟨e1, e2, e3, e4⟩
      subst e1 e2 e3 e4
      exact ⟨by omega, by omega, by omega, h4, by omega, rfl⟩
  have HI2 := Lib.hid hI2
  clear hI' hI2 h4 hz
  by_cases q1 : m = D.size
  rotate_left
  · have HB := Lib.hid (rightB_no (fun h => q1 (HI2.out.1 h).1))
    have p1 : ((m : Int) == (D.size : Int)) = false := by rw [beq_eq_false_iff_ne]; omega
    clear q1
    rcases G with ⟨rfl, g1, g2, g3⟩ | g1
    all_goals
      go_enter Tryz.func9, Tryz.ntmps9
      go_wp2_with (first
        | (go_at_call 17; with_reducible refine (HTT.out _).mono ?_; rintro e w1 ⟨rfl, hb1⟩; have HB1 := Lib.hid hb1; have z1 := hb1.size; rw [World.size_alloc] at z1; clear hb1)
        | (go_at_call 19; with_reducible refine (HO2.out _).mono ?_; rintro e w2 ⟨rfl, hb2⟩; have HB2 := Lib.hid hb2; have z2 := hb2.size; have y2 : w.heap.size < w2.heap.size := (by omega); have k2 := hb_below (hb_below (hb_new w _) HB1.out (by simp)) hb2 (by omega); have r0 := hb_at k2 0 rfl; have r1 := hb_at k2 1 rfl; have r2 := hb_at k2 2 rfl; have r3 := hb_at k2 3 rfl; clear hb2 k2))
      have hB2 : Below w.heap.size w w2 := ((below_alloc w _).trans (HB1.out.mono (by simp))).trans (HB2.out.mono (by omega))
      have hB4 := hB2.alloc hB2.size (.cells #[.int .i64 uk, .string us, .int .i64 un, .int .i64 0] 32)
      go_ret
      exact ⟨ret_bool HB.out.symm, hB4⟩
  have p1 : ((m : Int) == (D.size : Int)) = true := by rw [beq_iff_eq]; omega
  by_cases q2 : uk = k
  rotate_left
  · have HB := Lib.hid (rightB_no (fun h => q2 (HI2.out.1 h).2.1))
    have p2 : (uk == k) = false := by simpa using q2
    clear q1 q2
    rcases G with ⟨rfl, g1, g2, g3⟩ | g1
    all_goals
      go_enter Tryz.func9, Tryz.ntmps9
      go_wp2_with (first
        | (go_at_call 17; with_reducible refine (HTT.out _).mono ?_; rintro e w1 ⟨rfl, hb1⟩; have HB1 := Lib.hid hb1; have z1 := hb1.size; rw [World.size_alloc] at z1; clear hb1)
        | (go_at_call 19; with_reducible refine (HO2.out _).mono ?_; rintro e w2 ⟨rfl, hb2⟩; have HB2 := Lib.hid hb2; have z2 := hb2.size; have y2 : w.heap.size < w2.heap.size := (by omega); have k2 := hb_below (hb_below (hb_new w _) HB1.out (by simp)) hb2 (by omega); have r0 := hb_at k2 0 rfl; have r1 := hb_at k2 1 rfl; have r2 := hb_at k2 2 rfl; have r3 := hb_at k2 3 rfl; clear hb2 k2))
      have hB2 : Below w.heap.size w w2 := ((below_alloc w _).trans (HB1.out.mono (by simp))).trans (HB2.out.mono (by omega))
      have hB4 := hB2.alloc hB2.size (.cells #[.int .i64 uk, .string us, .int .i64 un, .int .i64 0] 32)
      go_ret
      exact ⟨ret_bool HB.out.symm, hB4⟩
  have p2 : (uk == k) = true := by simpa using q2
  by_cases q3 : us = s
  rotate_left
  · have HB := Lib.hid (rightB_no (fun h => q3 (HI2.out.1 h).2.2.1))
    have p3 : (us.toList == s.toList) = false := by rw [beq_eq_false_iff_ne]; exact fun e => q3 (toList_inj e)
    clear q1 q2 q3
    rcases G with ⟨rfl, g1, g2, g3⟩ | g1
    all_goals
      go_enter Tryz.func9, Tryz.ntmps9
      go_wp2_with (first
        | (go_at_call 17; with_reducible refine (HTT.out _).mono ?_; rintro e w1 ⟨rfl, hb1⟩; have HB1 := Lib.hid hb1; have z1 := hb1.size; rw [World.size_alloc] at z1; clear hb1)
        | (go_at_call 19; with_reducible refine (HO2.out _).mono ?_; rintro e w2 ⟨rfl, hb2⟩; have HB2 := Lib.hid hb2; have z2 := hb2.size; have y2 : w.heap.size < w2.heap.size := (by omega); have k2 := hb_below (hb_below (hb_new w _) HB1.out (by simp)) hb2 (by omega); have r0 := hb_at k2 0 rfl; have r1 := hb_at k2 1 rfl; have r2 := hb_at k2 2 rfl; have r3 := hb_at k2 3 rfl; clear hb2 k2))
      have hB2 : Below w.heap.size w w2 := ((below_alloc w _).trans (HB1.out.mono (by simp))).trans (HB2.out.mono (by omega))
      have hB4 := hB2.alloc hB2.size (.cells #[.int .i64 uk, .string us, .int .i64 un, .int .i64 0] 32)
      go_ret
      exact ⟨ret_bool HB.out.symm, hB4⟩
  have p3 : (us.toList == s.toList) = true := by rw [q3]; simp
  by_cases q4 : un = n
  rotate_left
  · have HB := Lib.hid (rightB_no (fun h => q4 (HI2.out.1 h).2.2.2))
    have p4 : (un == n) = false := by simpa using q4
    clear q1 q2 q3 q4
    rcases G with ⟨rfl, g1, g2, g3⟩ | g1
    all_goals
      go_enter Tryz.func9, Tryz.ntmps9
      go_wp2_with (first
        | (go_at_call 17; with_reducible refine (HTT.out _).mono ?_; rintro e w1 ⟨rfl, hb1⟩; have HB1 := Lib.hid hb1; have z1 := hb1.size; rw [World.size_alloc] at z1; clear hb1)
        | (go_at_call 19; with_reducible refine (HO2.out _).mono ?_; rintro e w2 ⟨rfl, hb2⟩; have HB2 := Lib.hid hb2; have z2 := hb2.size; have y2 : w.heap.size < w2.heap.size := (by omega); have k2 := hb_below (hb_below (hb_new w _) HB1.out (by simp)) hb2 (by omega); have r0 := hb_at k2 0 rfl; have r1 := hb_at k2 1 rfl; have r2 := hb_at k2 2 rfl; have r3 := hb_at k2 3 rfl; clear hb2 k2))
      have hB2 : Below w.heap.size w w2 := ((below_alloc w _).trans (HB1.out.mono (by simp))).trans (HB2.out.mono (by omega))
      have hB4 := hB2.alloc hB2.size (.cells #[.int .i64 uk, .string us, .int .i64 un, .int .i64 0] 32)
      go_ret
      exact ⟨ret_bool HB.out.symm, hB4⟩
  have p4 : (un == n) = true := by simpa using q4
  have HB := Lib.hid (rightB_yes (HI2.out.2 ⟨q1, q2, q3, q4⟩))
  clear q1 q2 q3 q4
  rcases G with ⟨rfl, g1, g2, g3⟩ | g1
  all_goals
    go_enter Tryz.func9, Tryz.ntmps9
    go_wp2_with (first
      | (go_at_call 17; with_reducible refine (HTT.out _).mono ?_; rintro e w1 ⟨rfl, hb1⟩; have HB1 := Lib.hid hb1; have z1 := hb1.size; rw [World.size_alloc] at z1; clear hb1)
      | (go_at_call 19; with_reducible refine (HO2.out _).mono ?_; rintro e w2 ⟨rfl, hb2⟩; have HB2 := Lib.hid hb2; have z2 := hb2.size; have y2 : w.heap.size < w2.heap.size := (by omega); have k2 := hb_below (hb_below (hb_new w _) HB1.out (by simp)) hb2 (by omega); have r0 := hb_at k2 0 rfl; have r1 := hb_at k2 1 rfl; have r2 := hb_at k2 2 rfl; have r3 := hb_at k2 3 rfl; clear hb2 k2))
    have hB2 : Below w.heap.size w w2 := ((below_alloc w _).trans (HB1.out.mono (by simp))).trans (HB2.out.mono (by omega))
    have hB4 := hB2.alloc hB2.size (.cells #[.int .i64 uk, .string us, .int .i64 un, .int .i64 0] 32)
    go_ret
    exact ⟨ret_bool HB.out.symm, hB4⟩
end Go.Proofs.YtpedmkdpbdhenaaGreatDoor
