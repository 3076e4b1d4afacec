
/- Which tokens may be; tokens, as they are told. -/
import Derived.Test.YtpedmkdpbdhenaaGreatDoorLq
namespace Go.Proofs.YtpedmkdpbdhenaaGreatDoor
open Go.RowKit
set_option linter.unusedSimpArgs false
set_option linter.unusedVariables false
theorem tol_eq (a b : ByteArray) : a.toList = b.toList ↔ a = b := ⟨toList_inj, fun h => by rw [h]⟩
theorem eqT_yes (k n : Int) (s : ByteArray) (w : World) : (binOp .eql 32 (.agg #[.int .i64 k, .string s, .int .i64 n, .int .i64 0]) (.agg #[.int .i64 k, .string s, .int .i64 n, .int .i64 0])).run Tryz.prog w = .ok (.bool true) w := by
  go_simp
theorem eqT_no (k n k' n' : Int) (s s' : ByteArray) (h : (⟨k, s, n⟩ : Tk) ≠ ⟨k', s', n'⟩) (w : World) : (binOp .eql 32 (.agg #[.int .i64 k, .string s, .int .i64 n, .int .i64 0]) (.agg #[.int .i64 k', .string s', .int .i64 n', .int .i64 0])).run Tryz.prog w = .ok (.bool false) w := by
  by_cases h1 : k = k'
  · subst h1
    by_cases h2 : s = s'
    · subst h2
      have h3 : n ≠ n' := fun e => h (by rw [e])
      go_simp
      try simp [h3]
    · have h2' : ¬ s.toList = s'.toList := fun e => h2 (toList_inj e)
      go_simp
      try simp [h2']
  · go_simp
    try simp [h1]
noncomputable def rightB (t : Tk) : Bool := @decide (RightT t) (Classical.propDecidable _)
theorem rightB_yes {t : Tk} (h : RightT t) : rightB t = true := @decide_eq_true _ (Classical.propDecidable _) h
theorem rightB_no {t : Tk} (h : ¬ RightT t) : rightB t = false := @decide_eq_false _ (Classical.propDecidable _) h
theorem rightB_of {t : Tk} (h : rightB t = true) : RightT t := @of_decide_eq_true _ (Classical.propDecidable _) h
set_option maxHeartbeats 4000000 in
set_option maxRecDepth 100000 in
theorem right_any (t : Tk) (a : Int) (hm : t.s.size ≤ 1000000) (hf : Fits t) (w : World) (hw : LxW w) :
    Calls Tryz.prog 8 #[t.v a] w fun e w' => e = .returned (.bool (rightB t)) ∧ Below w.heap.size w w' := by
  have hlen := tellT_len t hf.1 hf.2
  have HT := Lib.hid (fun W hW => tell_any t a (by omega) hf W hW)
  obtain ⟨L, hL⟩ : ∃ L, tellT t = L := ⟨_, rfl⟩
  rw [hL] at hlen HT
  obtain ⟨D, hD⟩ : ∃ D, ofL L = D := ⟨_, rfl⟩
  have hDs : D.size = L.length := by rw [← hD, ofL_size]
  rw [hD] at HT
  have HF := Lib.hid (fun W hW => first_any D (by omega) W hW)
  have hR : RightT t ↔ (0 < D.size ∧ firstT D = (t, D.size)) := by
    unfold RightT
    rw [hL, hD, hDs]
  have HW := Lib.hid hw
  rw [← hDs] at hlen
  clear hw hf hL hD hDs
  obtain ⟨T, hT⟩ : ∃ T, firstT D = T := ⟨_, rfl⟩
  rw [hT] at hR HF
  obtain ⟨⟨uk, us, un⟩, m⟩ := T
  obtain ⟨k, s, n⟩ := t
  have HT2 : RowKit.Hid (∀ W, LxW W → Calls Tryz.prog 15 #[.agg #[.int .i64 k, .string s, .int .i64 n, .int .i64 a]] W fun e w' => e = .returned (.string D) ∧ Below W.heap.size W w') := HT
  have HF2 : RowKit.Hid (∀ W, EscW W → Calls Tryz.prog 18 #[.string D] W fun e w' => e = .returned (.tuple #[.agg #[.int .i64 uk, .string us, .int .i64 un, .int .i64 0], .int .i64 (m : Nat)]) ∧ Below W.heap.size W w') := HF
  clear HT HF hT
  show Calls Tryz.prog 8 #[.agg #[.int .i64 k, .string s, .int .i64 n, .int .i64 a]] w _
  have hR' : RightT ⟨k, s, n⟩ ↔ (0 < m ∧ m = D.size ∧ (⟨uk, us, un⟩ : Tk) = ⟨k, s, n⟩) := by
    rw [hR]
    constructor
    · rintro ⟨h1, h2⟩
      rw [Prod.mk.injEq] at h2
      exact ⟨by omega, h2.2, h2.1⟩
    · rintro ⟨h1, h2, h3⟩
      exact ⟨by omega, by rw [h3, h2]⟩
  clear hR
  by_cases h0 : 0 < m
  rotate_left
  · have d0 : decide ((0 : Int) < (m : Int)) = false := by simp; omega
    have HB := Lib.hid (rightB_no (fun h => h0 (hR'.1 h).1))
    clear hR' d0
    obtain rfl : m = 0 := by omega
    go_enter Tryz.func8, Tryz.ntmps8
    go_wp2_with (first
      | (go_at_call 15; refine (HT2.out _ (HW.out.below (below_alloc w _))).mono ?_; rintro e w1 ⟨rfl, hb1⟩; have HB1 := Lib.hid hb1; have z1 := hb1.size; rw [World.size_alloc] at z1; clear hb1)
      | (go_at_call 18; refine (HF2.out _ ((HW.out.below (below_alloc w _)).below HB1.out).1).mono ?_; rintro e w2 ⟨rfl, hb2⟩; have HB2 := Lib.hid hb2; have z2 := hb2.size; have y2 : w.heap.size < w2.heap.size := (by omega); have k2 := hb_below (hb_below (hb_new w (.cells #[.int .i64 k, .string s, .int .i64 n, .int .i64 a] 32)) HB1.out (by simp)) hb2 (by omega); have r0 := hb_at k2 0 rfl; have r1 := hb_at k2 1 rfl; have r2 := hb_at k2 2 rfl; have r3 := hb_at k2 3 rfl; have f0 := hb_free k2 0; have f1 := hb_free k2 1; have f2 := hb_free k2 2; have f3 := hb_free k2 3; clear hb2 k2))
    all_goals
      have hB2 : Below w.heap.size w w2 := ((below_alloc w _).trans (HB1.out.mono (by simp))).trans (HB2.out.mono (by omega))
      have hB3 := hB2.setCell (p := ⟨w.heap.size, 3, none⟩) (Nat.le_refl _) (.int .i64 0)
      have hB4 := hB3.alloc hB3.size (.cells #[.int .i64 uk, .string us, .int .i64 un, .int .i64 0] 32)
      go_ret
      exact ⟨ret_bool HB.out.symm, hB4⟩
  by_cases h1 : m = D.size
  rotate_left
  · have d1 : ((m : Int) == (D.size : Int)) = false := by rw [beq_eq_false_iff_ne]; omega
    have HB := Lib.hid (rightB_no (fun h => h1 (hR'.1 h).2.1))
    clear hR' h1
    go_enter Tryz.func8, Tryz.ntmps8
    go_wp2_with (first
      | (go_at_call 15; refine (HT2.out _ (HW.out.below (below_alloc w _))).mono ?_; rintro e w1 ⟨rfl, hb1⟩; have HB1 := Lib.hid hb1; have z1 := hb1.size; rw [World.size_alloc] at z1; clear hb1)
      | (go_at_call 18; refine (HF2.out _ ((HW.out.below (below_alloc w _)).below HB1.out).1).mono ?_; rintro e w2 ⟨rfl, hb2⟩; have HB2 := Lib.hid hb2; have z2 := hb2.size; have y2 : w.heap.size < w2.heap.size := (by omega); have k2 := hb_below (hb_below (hb_new w (.cells #[.int .i64 k, .string s, .int .i64 n, .int .i64 a] 32)) HB1.out (by simp)) hb2 (by omega); have r0 := hb_at k2 0 rfl; have r1 := hb_at k2 1 rfl; have r2 := hb_at k2 2 rfl; have r3 := hb_at k2 3 rfl; have f0 := hb_free k2 0; have f1 := hb_free k2 1; have f2 := hb_free k2 2; have f3 := hb_free k2 3; clear hb2 k2))
    all_goals
      have hB2 : Below w.heap.size w w2 := ((below_alloc w _).trans (HB1.out.mono (by simp))).trans (HB2.out.mono (by omega))
      have hB3 := hB2.setCell (p := ⟨w.heap.size, 3, none⟩) (Nat.le_refl _) (.int .i64 0)
      have hB4 := hB3.alloc hB3.size (.cells #[.int .i64 uk, .string us, .int .i64 un, .int .i64 0] 32)
      go_ret
      exact ⟨ret_bool HB.out.symm, hB4⟩
  have d1 : ((m : Int) == (D.size : Int)) = true := by rw [beq_iff_eq]; omega
  by_cases h2 : (⟨uk, us, un⟩ : Tk) = ⟨k, s, n⟩
  · have HB := Lib.hid (rightB_yes (hR'.2 ⟨h0, h1, h2⟩))
    cases h2
    clear hR'
    go_enter Tryz.func8, Tryz.ntmps8
    go_wp2_with (first
      | (go_at_call 15; refine (HT2.out _ (HW.out.below (below_alloc w _))).mono ?_; rintro e w1 ⟨rfl, hb1⟩; have HB1 := Lib.hid hb1; have z1 := hb1.size; rw [World.size_alloc] at z1; clear hb1)
      | (go_at_call 18; refine (HF2.out _ ((HW.out.below (below_alloc w _)).below HB1.out).1).mono ?_; rintro e w2 ⟨rfl, hb2⟩; have HB2 := Lib.hid hb2; have z2 := hb2.size; have y2 : w.heap.size < w2.heap.size := (by omega); have k2 := hb_below (hb_below (hb_new w (.cells #[.int .i64 uk, .string us, .int .i64 un, .int .i64 a] 32)) HB1.out (by simp)) hb2 (by omega); have r0 := hb_at k2 0 rfl; have r1 := hb_at k2 1 rfl; have r2 := hb_at k2 2 rfl; have r3 := hb_at k2 3 rfl; have f0 := hb_free k2 0; have f1 := hb_free k2 1; have f2 := hb_free k2 2; have f3 := hb_free k2 3; clear hb2 k2))
    all_goals
      have hB2 : Below w.heap.size w w2 := ((below_alloc w _).trans (HB1.out.mono (by simp))).trans (HB2.out.mono (by omega))
      have hB3 := hB2.setCell (p := ⟨w.heap.size, 3, none⟩) (Nat.le_refl _) (.int .i64 0)
      have hB4 := hB3.alloc hB3.size (.cells #[.int .i64 uk, .string us, .int .i64 un, .int .i64 0] 32)
      go_ret
      exact ⟨ret_bool HB.out.symm, hB4⟩
  · have HB := Lib.hid (rightB_no (fun h => h2 (hR'.1 h).2.2))
    clear hR'
    by_cases e1 : uk = k
    rotate_left
    · clear h2
      go_enter Tryz.func8, Tryz.ntmps8
      go_wp2_with (first
        | (go_at_call 15; refine (HT2.out _ (HW.out.below (below_alloc w _))).mono ?_; rintro e w1 ⟨rfl, hb1⟩; have HB1 := Lib.hid hb1; have z1 := hb1.size; rw [World.size_alloc] at z1; clear hb1)
        | (go_at_call 18; refine (HF2.out _ ((HW.out.below (below_alloc w _)).below HB1.out).1).mono ?_; rintro e w2 ⟨rfl, hb2⟩; have HB2 := Lib.hid hb2; have z2 := hb2.size; have y2 : w.heap.size < w2.heap.size := (by omega); have k2 := hb_below (hb_below (hb_new w (.cells #[.int .i64 k, .string s, .int .i64 n, .int .i64 a] 32)) HB1.out (by simp)) hb2 (by omega); have r0 := hb_at k2 0 rfl; have r1 := hb_at k2 1 rfl; have r2 := hb_at k2 2 rfl; have r3 := hb_at k2 3 rfl; have f0 := hb_free k2 0; have f1 := hb_free k2 1; have f2 := hb_free k2 2; have f3 := hb_free k2 3; clear hb2 k2))
      all_goals
        have hB2 : Below w.heap.size w w2 := ((below_alloc w _).trans (HB1.out.mono (by simp))).trans (HB2.out.mono (by omega))
        have hB3 := hB2.setCell (p := ⟨w.heap.size, 3, none⟩) (Nat.le_refl _) (.int .i64 0)
        have hB4 := hB3.alloc hB3.size (.cells #[.int .i64 uk, .string us, .int .i64 un, .int .i64 0] 32)
        go_ret
        exact ⟨ret_bool HB.out.symm, hB4⟩
    subst e1
    by_cases e2 : us = s
    rotate_left
    · have e2' : ¬ us.toList = s.toList := fun e => e2 (toList_inj e)
      clear h2 e2
      go_enter Tryz.func8, Tryz.ntmps8
      go_wp2_with (first
        | (go_at_call 15; refine (HT2.out _ (HW.out.below (below_alloc w _))).mono ?_; rintro e w1 ⟨rfl, hb1⟩; have HB1 := Lib.hid hb1; have z1 := hb1.size; rw [World.size_alloc] at z1; clear hb1)
        | (go_at_call 18; refine (HF2.out _ ((HW.out.below (below_alloc w _)).below HB1.out).1).mono ?_; rintro e w2 ⟨rfl, hb2⟩; have HB2 := Lib.hid hb2; have z2 := hb2.size; have y2 : w.heap.size < w2.heap.size := (by omega); have k2 := hb_below (hb_below (hb_new w (.cells #[.int .i64 uk, .string s, .int .i64 n, .int .i64 a] 32)) HB1.out (by simp)) hb2 (by omega); have r0 := hb_at k2 0 rfl; have r1 := hb_at k2 1 rfl; have r2 := hb_at k2 2 rfl; have r3 := hb_at k2 3 rfl; have f0 := hb_free k2 0; have f1 := hb_free k2 1; have f2 := hb_free k2 2; have f3 := hb_free k2 3; clear hb2 k2))
      all_goals
        have hB2 : Below w.heap.size w w2 := ((below_alloc w _).trans (HB1.out.mono (by simp))).trans (HB2.out.mono (by omega))
        have hB3 := hB2.setCell (p := ⟨w.heap.size, 3, none⟩) (Nat.le_refl _) (.int .i64 0)
        have hB4 := hB3.alloc hB3.size (.cells #[.int .i64 uk, .string us, .int .i64 un, .int .i64 0] 32)
        go_ret
        exact ⟨ret_bool HB.out.symm, hB4⟩
    subst e2
    have e3 : ¬ un = n := fun e => h2 (by rw [e])
    clear h2
    go_enter Tryz.func8, Tryz.ntmps8
    go_wp2_with (first
      | (go_at_call 15; refine (HT2.out _ (HW.out.below (below_alloc w _))).mono ?_; rintro e w1 ⟨rfl, hb1⟩; have HB1 := Lib.hid hb1; have z1 := hb1.size; rw [World.size_alloc] at z1; clear hb1)
      | (go_at_call 18; refine (HF2.out _ ((HW.out.below (below_alloc w _)).below HB1.out).1).mono ?_; rintro e w2 ⟨rfl, hb2⟩; have HB2 := Lib.hid hb2; have z2 := hb2.size; have y2 : w.heap.size < w2.heap.size := (by omega); have k2 := hb_below (hb_below (hb_new w (.cells #[.int .i64 uk, .string us, .int .i64 n, .int .i64 a] 32)) HB1.out (by simp)) hb2 (by omega); have r0 := hb_at k2 0 rfl; have r1 := hb_at k2 1 rfl; have r2 := hb_at k2 2 rfl; have r3 := hb_at k2 3 rfl; have f0 := hb_free k2 0; have f1 := hb_free k2 1; have f2 := hb_free k2 2; have f3 := hb_free k2 3; clear hb2 k2))
    all_goals
      have hB2 : Below w.heap.size w w2 := ((below_alloc w _).trans (HB1.out.mono (by simp))).trans (HB2.out.mono (by omega))
      have hB3 := hB2.setCell (p := ⟨w.heap.size, 3, none⟩) (Nat.le_refl _) (.int .i64 0)
      have hB4 := hB3.alloc hB3.size (.cells #[.int .i64 uk, .string us, .int .i64 un, .int .i64 0] 32)
      go_ret
      exact ⟨ret_bool HB.out.symm, hB4⟩
end Go.Proofs.YtpedmkdpbdhenaaGreatDoor
