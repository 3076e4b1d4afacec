/- Contracts: partsOf, Mutates both, hasPin, hasSource, small, number, pin. -/
import Derived.Test.YtfbfdkjimoomlaaM4
import Derived.Test.YtfbfdkjimoomlaaP5
import Derived.Test.YtfbfdkjimoomlaaE4
import Derived.Test.YtfbfdkjimoomlaaD4
namespace Go.Proofs.Ytfbfdkjimoomlaa
open Go.RowKit

theorem beq_no {k n : Int} (h : k ≠ n) : (k == n) = false := by rw [beq_eq_false_iff_ne]; exact h
theorem parts_val (k : Int) (a b c : Bool) (ha : Cm.hasPin k = a) (hb : Cm.hasOther k = b) (hc : Cm.hasSource k = c) : Ending.returned (.agg #[.bool a, .bool b, .bool c]) = .returned (.agg #[.bool (Cm.hasPin k), .bool (Cm.hasOther k), .bool (Cm.hasSource k)]) := by rw [ha, hb, hc]
theorem partsOf_any (k : Int) (w : World) : Calls Try.prog 23 #[.int .i64 k] w fun e w' => e = .returned (.agg #[.bool (Cm.hasPin k), .bool (Cm.hasOther k), .bool (Cm.hasSource k)]) ∧ Below w.heap.size w w' := by
  by_cases h1 : k = 1
  · subst h1
    go_enter Try.func23, Try.ntmps23
    go_wp2
    exact bodyPost_ret (v := .agg #[.bool true, .bool false, .bool true]) (by simp [results, Try.results23, go_sem]) rfl ⟨parts_val _ _ _ _ rfl rfl rfl, below2 w _ _⟩
  by_cases h2 : k = 2
  · subst h2
    go_enter Try.func23, Try.ntmps23
    go_wp2
    exact bodyPost_ret (v := .agg #[.bool true, .bool false, .bool false]) (by simp [results, Try.results23, go_sem]) rfl ⟨parts_val _ _ _ _ rfl rfl rfl, below2 w _ _⟩
  by_cases h3 : k = 3
  · subst h3
    go_enter Try.func23, Try.ntmps23
    go_wp2
    exact bodyPost_ret (v := .agg #[.bool true, .bool false, .bool false]) (by simp [results, Try.results23, go_sem]) rfl ⟨parts_val _ _ _ _ rfl rfl rfl, below2 w _ _⟩
  by_cases h4 : k = 4
  · subst h4
    go_enter Try.func23, Try.ntmps23
    go_wp2
    exact bodyPost_ret (v := .agg #[.bool true, .bool false, .bool false]) (by simp [results, Try.results23, go_sem]) rfl ⟨parts_val _ _ _ _ rfl rfl rfl, below2 w _ _⟩
  by_cases h5 : k = 5
  · subst h5
    go_enter Try.func23, Try.ntmps23
    go_wp2
    exact bodyPost_ret (v := .agg #[.bool true, .bool false, .bool false]) (by simp [results, Try.results23, go_sem]) rfl ⟨parts_val _ _ _ _ rfl rfl rfl, below2 w _ _⟩
  by_cases h6 : k = 6
  · subst h6
    go_enter Try.func23, Try.ntmps23
    go_wp2
    exact bodyPost_ret (v := .agg #[.bool true, .bool true, .bool false]) (by simp [results, Try.results23, go_sem]) rfl ⟨parts_val _ _ _ _ rfl rfl rfl, below2 w _ _⟩
  by_cases h7 : k = 7
  · subst h7
    go_enter Try.func23, Try.ntmps23
    go_wp2
    exact bodyPost_ret (v := .agg #[.bool false, .bool false, .bool true]) (by simp [results, Try.results23, go_sem]) rfl ⟨parts_val _ _ _ _ rfl rfl rfl, below2 w _ _⟩
  by_cases h8 : k = 8
  · subst h8
    go_enter Try.func23, Try.ntmps23
    go_wp2
    exact bodyPost_ret (v := .agg #[.bool true, .bool false, .bool false]) (by simp [results, Try.results23, go_sem]) rfl ⟨parts_val _ _ _ _ rfl rfl rfl, below2 w _ _⟩
  · have HP : RowKit.Hid (Cm.hasPin k = false ∧ Cm.hasOther k = false ∧ Cm.hasSource k = false) := Lib.hid ⟨by unfold Cm.hasPin; rw [decide_eq_false_iff_not]; omega, by unfold Cm.hasOther; rw [decide_eq_false_iff_not]; omega, by unfold Cm.hasSource; rw [decide_eq_false_iff_not]; omega⟩
    have e1 := beq_no h1
    have e2 := beq_no h2
    have e3 := beq_no h3
    have e4 := beq_no h4
    have e5 := beq_no h5
    have e6 := beq_no h6
    have e7 := beq_no h7
    have e8 := beq_no h8
    clear h1 h2 h3 h4 h5 h6 h7 h8
    go_enter Try.func23, Try.ntmps23
    go_wp2
    exact bodyPost_ret (v := .agg #[.bool false, .bool false, .bool false]) (by simp [results, Try.results23, go_sem]) rfl ⟨parts_val _ _ _ _ HP.out.1 HP.out.2.1 HP.out.2.2, below2 w _ _⟩

namespace Cm
def mutates (k : Int) : Bool := decide (1 ≤ k ∧ k ≤ 3)
end Cm
theorem mutates_any (k : Int) (w : World) : Calls Try.prog 13 #[.int .i64 k] w fun e w' => e = .returned (.bool (Cm.mutates k)) ∧ w = w' := by
  by_cases h1 : k = 1
  · subst h1
    go_enter Try.func13, Try.ntmps13
    go_wp2
    go_ret
    exact ⟨rfl, rfl⟩
  by_cases h2 : k = 2
  · subst h2
    go_enter Try.func13, Try.ntmps13
    go_wp2
    go_ret
    exact ⟨rfl, rfl⟩
  by_cases h3 : k = 3
  · subst h3
    go_enter Try.func13, Try.ntmps13
    go_wp2
    go_ret
    exact ⟨rfl, rfl⟩
  · have HP : RowKit.Hid (Cm.mutates k = false) := Lib.hid (by unfold Cm.mutates; rw [decide_eq_false_iff_not]; omega)
    have e1 := beq_no h1
    have e2 := beq_no h2
    have e3 := beq_no h3
    clear h1 h2 h3
    go_enter Try.func13, Try.ntmps13
    go_wp2
    go_ret
    exact ⟨ret_bool HP.out.symm, rfl⟩
theorem refMutates_any (k : Int) (w : World) : Calls Try.prog 14 #[.int .i64 k] w fun e w' => e = .returned (.bool (Cm.mutates k)) ∧ w = w' := by
  have HM : RowKit.Hid (∀ b, decide (1 ≤ k ∧ k ≤ 3) = b → Cm.mutates k = b) := Lib.hid (fun b h => h)
  by_cases h1 : 1 ≤ k
  · have d1 : decide (1 ≤ k) = true := by simpa using h1
    by_cases h2 : k ≤ 3
    · have d2 : decide (k ≤ 3) = true := by simpa using h2
      have HK := Lib.hid (And.intro h1 h2)
      clear h1 h2
      go_enter Try.func14, Try.ntmps14
      go_wp2
      go_ret
      exact ⟨ret_bool (HM.out _ (by simp [HK.out])).symm, rfl⟩
    · have d2 : decide (k ≤ 3) = false := by simpa using h2
      have HK := Lib.hid h2
      clear h1 h2
      go_enter Try.func14, Try.ntmps14
      go_wp2
      go_ret
      exact ⟨ret_bool (HM.out _ (by rw [decide_eq_false_iff_not]; have := HK.out; omega)).symm, rfl⟩
  · have d1 : decide (1 ≤ k) = false := by simpa using h1
    have HK := Lib.hid h1
    clear h1
    go_enter Try.func14, Try.ntmps14
    go_wp2
    go_ret
    exact ⟨ret_bool (HM.out _ (by rw [decide_eq_false_iff_not]; have := HK.out; omega)).symm, rfl⟩
theorem refHasPin_any (k : Int) (w : World) : Calls Try.prog 28 #[.int .i64 k] w fun e w' => e = .returned (.bool (Cm.hasPin k)) ∧ w = w' := by
  have HM : RowKit.Hid (∀ b, decide (1 ≤ k ∧ k ≤ 8 ∧ k ≠ 7) = b → Cm.hasPin k = b) := Lib.hid (fun b h => h)
  by_cases h1 : 1 ≤ k
  · have d1 : decide (1 ≤ k) = true := by simpa using h1
    by_cases h2 : k ≤ 8
    · have d2 : decide (k ≤ 8) = true := by simpa using h2
      by_cases h3 : k = 7
      · subst h3
        clear h1 h2 d1 d2 HM
        go_enter Try.func28, Try.ntmps28
        go_wp2
        go_ret
        exact ⟨rfl, rfl⟩
      · have d3 := beq_no h3
        have d4 : (k != 7) = true := by simpa using h3
        have HK := Lib.hid (And.intro h1 (And.intro h2 h3))
        clear h1 h2 h3
        go_enter Try.func28, Try.ntmps28
        go_wp2
        go_ret
        exact ⟨ret_bool (HM.out _ (by rw [decide_eq_true_iff]; exact HK.out)).symm, rfl⟩
    · have d2 : decide (k ≤ 8) = false := by simpa using h2
      have HK := Lib.hid h2
      clear h1 h2
      go_enter Try.func28, Try.ntmps28
      go_wp2
      go_ret
      exact ⟨ret_bool (HM.out _ (by rw [decide_eq_false_iff_not]; have := HK.out; omega)).symm, rfl⟩
  · have d1 : decide (1 ≤ k) = false := by simpa using h1
    have HK := Lib.hid h1
    clear h1
    go_enter Try.func28, Try.ntmps28
    go_wp2
    go_ret
    exact ⟨ret_bool (HM.out _ (by rw [decide_eq_false_iff_not]; have := HK.out; omega)).symm, rfl⟩
theorem refHasSource_any (k : Int) (w : World) : Calls Try.prog 30 #[.int .i64 k] w fun e w' => e = .returned (.bool (Cm.hasSource k)) ∧ w = w' := by
  by_cases h1 : k = 1
  · subst h1
    go_enter Try.func30, Try.ntmps30
    go_wp2
    go_ret
    exact ⟨rfl, rfl⟩
  by_cases h2 : k = 7
  · subst h2
    go_enter Try.func30, Try.ntmps30
    go_wp2
    go_ret
    exact ⟨rfl, rfl⟩
  · have HP : RowKit.Hid (Cm.hasSource k = false) := Lib.hid (by unfold Cm.hasSource; rw [decide_eq_false_iff_not]; omega)
    have e1 := beq_no h1
    have e2 := beq_no h2
    clear h1 h2
    go_enter Try.func30, Try.ntmps30
    go_wp2
    go_ret
    exact ⟨ret_bool HP.out.symm, rfl⟩
theorem refSmall_any (x : Nat) (hx : x < 18446744073709551616) (w : World) : Calls Try.prog 40 #[.int .u64 x] w fun e w' => e = .returned (.int .i64 (Cm.sm x)) ∧ w = w' := by
  by_cases h : 1000000 < x
  · have d : decide (1000000 < (x : Int)) = true := by simp; omega
    have H : RowKit.Hid (Cm.sm x = 1000000) := Lib.hid (by unfold Cm.sm; rw [if_pos h])
    clear h
    go_enter Try.func40, Try.ntmps40
    go_wp2
    go_ret
    exact ⟨ret_int H.out.symm, rfl⟩
  · have d : decide (1000000 < (x : Int)) = false := by simp; omega
    have H : RowKit.Hid (Cm.sm x = x) := Lib.hid (by unfold Cm.sm; rw [if_neg h])
    have h2 : x ≤ 1000000 := by omega
    clear h hx
    go_enter Try.func40, Try.ntmps40
    go_wp2
    go_ret
    exact ⟨ret_int H.out.symm, rfl⟩
theorem refNumber_any (n : Int) (h0 : 0 ≤ n) (h1 : n ≤ 9223372036854775807) (w : World) : Calls Try.prog 27 #[.int .i64 n] w fun e w' => e = .returned (.string (str (Cm.num n))) ∧ Below w.heap.size w w' := by
  obtain ⟨m, rfl⟩ := Int.eq_ofNat_of_zero_le h0
  have H : RowKit.Hid (Cm.num m = Cx.uv m) := Lib.hid (by unfold Cm.num; rw [Int.toNat_natCast])
  have h2 : m ≤ 9223372036854775807 := by omega
  clear h0 h1
  go_enter Try.func27, Try.ntmps27
  go_wp2_with (go_at_call 52; refine (refUvarint_any m (by omega) _).mono ?_; rintro e w1 ⟨rfl, hb⟩)
  go_ret
  rw [H.out]
  exact ⟨rfl, hb⟩
end Go.Proofs.Ytfbfdkjimoomlaa
