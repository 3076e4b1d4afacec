/- Texts in a row: Nj Jc Jd. -/
import Derived.Test.YthcpmdgdbceeiaaGreatDoorZ21
import Derived.Test.YthcpmdgdbceeiaaGreatDoorZ18
/- The document's Right. -/
namespace Go.Proofs.YthcpmdgdbceeiaaGreatDoor
open Go.RowKit
set_option linter.unusedSimpArgs false
set_option linter.unusedVariables false
set_option maxHeartbeats 8000000 in
set_option maxRecDepth 100000 in
theorem right_doc (t : Tk) (a : Int) (hm : t.s.size ≤ 1000000) (w : World) :
    Calls Tryz.prog 59 #[t.v a] w fun e w' => e = .returned (.bool (rightB t)) ∧ Below w.heap.size w w' := by
  have hI := right_iff t
  have HT0 := Lib.hid (fun hf W => told_doc t a (by omega) hf W)
  have hlen := fun h1 h2 => tellT_len t h1 h2
  have hlen4 : t.k ≠ 4 → (tellT t).length ≤ 2 * t.s.size + 22 := by
    intro h4
    have hl := tellT_len ⟨t.k, t.s, 0⟩ (by simp) (by simp)
    have e : tellT ⟨t.k, t.s, 0⟩ = tellT t := by unfold tellT; simp only [if_neg h4]
    rw [e] at hl
    exact hl
  obtain ⟨L, hL⟩ : ∃ L, tellT t = L := ⟨_, rfl⟩
  rw [hL] at hI HT0 hlen hlen4
  obtain ⟨D, hD⟩ : ∃ D, ofL L = D := ⟨_, rfl⟩
  have hDs : D.size = L.length := by rw [← hD, ofL_size]
  have hDL : D.data.toList = L := by rw [← hD]
  rw [hD] at HT0
  rw [← hDL, len_list] at hI
  obtain ⟨k, s, n⟩ := t
  have hm' : s.size ≤ 1000000 := hm
  have hI' : RightT ⟨k, s, n⟩ ↔ (1 ≤ k ∧ k ≤ 8 ∧ s.size ≤ 1000 ∧ (k = 4 → -999999999999999999 ≤ n ∧ n ≤ 999999999999999999) ∧ 0 < D.size ∧ oneT D.data.toList = (⟨k, s, n⟩, D.size)) := hI
  have HT : RowKit.Hid ((k = 4 → -999999999999999999 ≤ n ∧ n ≤ 999999999999999999) → ∀ W, Calls Tryz.prog 66 #[.agg #[.int .i64 k, .string s, .int .i64 n, .int .i64 a]] W fun e w' => e = .returned (.string D) ∧ Below W.heap.size W w') := HT0
  have hlen' : -9223372036854775808 ≤ n → n ≤ 9223372036854775807 → L.length ≤ 2 * s.size + 22 := hlen
  have hlen4' : k ≠ 4 → L.length ≤ 2 * s.size + 22 := hlen4
  clear hI HT0 hlen hlen4 hL hD hm
  unfold Tk.v
  show Calls Tryz.prog 59 #[.agg #[.int .i64 k, .string s, .int .i64 n, .int .i64 a]] w _
  by_cases h1 : k < 1
  · have d1 : decide (k < 1) = true := by simpa using h1
    have HB := Lib.hid (rightB_no (fun h => by have := (hI'.1 h).1; omega))
    clear hI' hDs hDL
    go_enter Tryz.func59, Tryz.ntmps59
    go_wp2
    go_ret
    exact ⟨ret_bool HB.out.symm, below_alloc w _⟩
  have d1 : decide (k < 1) = false := by simpa using h1
  by_cases h2 : 8 < k
  · have d2 : decide (8 < k) = true := by simpa using h2
    have HB := Lib.hid (rightB_no (fun h => by have := (hI'.1 h).2.1; omega))
    clear hI' hDs hDL
    go_enter Tryz.func59, Tryz.ntmps59
    go_wp2
    go_ret
    exact ⟨ret_bool HB.out.symm, below_alloc w _⟩
  have d2 : decide (8 < k) = false := by simpa using h2
  by_cases h3 : 1000 < s.size
  · have d3 : decide ((1000 : Int) < (s.size : Int)) = true := by simp; omega
    have HB := Lib.hid (rightB_no (fun h => by have := (hI'.1 h).2.2.1; omega))
    clear hI' hDs hDL
    go_enter Tryz.func59, Tryz.ntmps59
    go_wp2
    go_ret
    exact ⟨ret_bool HB.out.symm, below_alloc w _⟩
  have d3 : decide ((1000 : Int) < (s.size : Int)) = false := by simp; omega
  have hrange : (k = 4 ∧ (n < -999999999999999999 ∨ (¬ n < -999999999999999999 ∧ 999999999999999999 < n))) ∨ (k = 4 → -999999999999999999 ≤ n ∧ n ≤ 999999999999999999) := by omega
  rcases hrange with ⟨h4, h5⟩ | h4
  · have HB := Lib.hid (rightB_no (fun h => by have := (hI'.1 h).2.2.2.1 h4; omega))
    subst h4
    clear hI' hDs hDL
    rcases h5 with h5 | ⟨h5, h6⟩
    · have d5 : decide (n < -999999999999999999) = true := by simpa using h5
      go_enter Tryz.func59, Tryz.ntmps59
      go_wp2
      go_ret
      exact ⟨ret_bool HB.out.symm, below_alloc w _⟩
    · have d5 : decide (n < -999999999999999999) = false := by simpa using h5
      have d6 : decide (999999999999999999 < n) = true := by simpa using h6
      go_enter Tryz.func59, Tryz.ntmps59
      go_wp2
      go_ret
      exact ⟨ret_bool HB.out.symm, below_alloc w _⟩
  have HTT := Lib.hid (HT.out h4)
  have hLl : L.length ≤ 2 * s.size + 22 := by
    by_cases hk4 : k = 4
    · have := h4 hk4
      exact hlen' (by omega) (by omega)
    · exact hlen4' hk4
  have hDm : D.size ≤ 4194304 := by omega
  have G : (k = 4 ∧ (k == 4) = true ∧ decide (n < -999999999999999999) = false ∧ decide (999999999999999999 < n) = false) ∨ ((k == 4) = false) := by
    by_cases hk4 : k = 4
    · have := h4 hk4
      exact .inl ⟨hk4, by simpa using hk4, by simp; omega, by simp; omega⟩
    · exact .inr (by simpa using hk4)
  clear hlen' hlen4' HT hDs hDL hLl
  have HEAD : RowKit.Hid True := Lib.hid trivial
  by_cases hz : D.size = 0
  · have hDe : (D.toList == []) = true := by
      rw [ByteArray.toList_eq, beq_iff_eq]
      apply List.eq_nil_of_length_eq_zero
      rw [len_list]; exact hz
    have HB := Lib.hid (rightB_no (fun h => by have := (hI'.1 h).2.2.2.2.1; omega))
    clear hI' h4 hz
    rcases G with ⟨rfl, g1, g2, g3⟩ | g1
    all_goals
      go_enter Tryz.func59, Tryz.ntmps59
      go_wp2_with (go_at_call 66; with_reducible refine (HTT.out _).mono ?_; rintro e w1 ⟨rfl, hb⟩)
      go_ret
      exact ⟨ret_bool HB.out.symm, (below_alloc w _).trans (hb.mono (by simp))⟩
  have hDe : (D.toList == []) = false := by
    rw [beq_eq_false_iff_ne]
    intro e
    have := congrArg List.length e
    rw [ByteArray.toList_eq, len_list] at this
    exact hz this
  have HO := Lib.hid (fun W => one_doc D hDm (by omega) W)
  obtain ⟨T, hT⟩ : ∃ T, oneT D.data.toList = T := ⟨_, rfl⟩
  rw [hT] at HO hI'
  obtain ⟨⟨uk, us, un⟩, m⟩ := T
  have HO2 : RowKit.Hid (∀ W, Calls Tryz.prog 67 #[.string D, .int .i64 0] W fun e w' => e = .returned (.tuple #[.agg #[.int .i64 uk, .string us, .int .i64 un, .int .i64 0], .int .i64 (m : Nat)]) ∧ Below W.heap.size W w') := HO
  clear HO hT
  have hI2 : RightT ⟨k, s, n⟩ ↔ (m = D.size ∧ uk = k ∧ us = s ∧ un = n) := by
    rw [hI']
    constructor
    · rintro ⟨_, _, _, _, _, h⟩
      cases h
      exact ⟨rfl, rfl, rfl, rfl⟩
    · rintro ⟨e1, e2, e3, e4⟩
      subst e1 e2 e3 e4
      exact ⟨by omega, by omega, by omega, h4, by omega, rfl⟩
  have HI2 := Lib.hid hI2
  clear hI' hI2 h4 hz
  by_cases q1 : m = D.size
  rotate_left
  · have HB := Lib.hid (rightB_no (fun h => q1 (HI2.out.1 h).1))
    have p1 : ((m : Int) == (D.size : Int)) = false := by rw [beq_eq_false_iff_ne]; omega
    clear q1
    rcases G with ⟨rfl, g1, g2, g3⟩ | g1
    all_goals
      go_enter Tryz.func59, Tryz.ntmps59
      go_wp2_with (first
        | (go_at_call 66; with_reducible refine (HTT.out _).mono ?_; rintro e w1 ⟨rfl, hb1⟩; have HB1 := Lib.hid hb1; have z1 := hb1.size; rw [World.size_alloc] at z1; clear hb1)
        | (go_at_call 67; with_reducible refine (HO2.out _).mono ?_; rintro e w2 ⟨rfl, hb2⟩; have HB2 := Lib.hid hb2; have z2 := hb2.size; have y2 : w.heap.size < w2.heap.size := (by omega); have k2 := hb_below (hb_below (hb_new w _) HB1.out (by simp)) hb2 (by omega); have r0 := hb_at k2 0 rfl; have r1 := hb_at k2 1 rfl; have r2 := hb_at k2 2 rfl; have r3 := hb_at k2 3 rfl; clear hb2 k2))
      have hB2 : Below w.heap.size w w2 := ((below_alloc w _).trans (HB1.out.mono (by simp))).trans (HB2.out.mono (by omega))
      have hB4 := hB2.alloc hB2.size (.cells #[.int .i64 uk, .string us, .int .i64 un, .int .i64 0] 67)
      go_ret
      exact ⟨ret_bool HB.out.symm, hB4⟩
  have p1 : ((m : Int) == (D.size : Int)) = true := by rw [beq_iff_eq]; omega
  by_cases q2 : uk = k
  rotate_left
  · have HB := Lib.hid (rightB_no (fun h => q2 (HI2.out.1 h).2.1))
    have p2 : (uk == k) = false := by simpa using q2
    clear q1 q2
    rcases G with ⟨rfl, g1, g2, g3⟩ | g1
    all_goals
      go_enter Tryz.func59, Tryz.ntmps59
      go_wp2_with (first
        | (go_at_call 66; with_reducible refine (HTT.out _).mono ?_; rintro e w1 ⟨rfl, hb1⟩; have HB1 := Lib.hid hb1; have z1 := hb1.size; rw [World.size_alloc] at z1; clear hb1)
        | (go_at_call 67; with_reducible refine (HO2.out _).mono ?_; rintro e w2 ⟨rfl, hb2⟩; have HB2 := Lib.hid hb2; have z2 := hb2.size; have y2 : w.heap.size < w2.heap.size := (by omega); have k2 := hb_below (hb_below (hb_new w _) HB1.out (by simp)) hb2 (by omega); have r0 := hb_at k2 0 rfl; have r1 := hb_at k2 1 rfl; have r2 := hb_at k2 2 rfl; have r3 := hb_at k2 3 rfl; clear hb2 k2))
      have hB2 : Below w.heap.size w w2 := ((below_alloc w _).trans (HB1.out.mono (by simp))).trans (HB2.out.mono (by omega))
      have hB4 := hB2.alloc hB2.size (.cells #[.int .i64 uk, .string us, .int .i64 un, .int .i64 0] 67)
      go_ret
      exact ⟨ret_bool HB.out.symm, hB4⟩
  have p2 : (uk == k) = true := by simpa using q2
  by_cases q3 : us = s
  rotate_left
  · have HB := Lib.hid (rightB_no (fun h => q3 (HI2.out.1 h).2.2.1))
    have p3 : (us.toList == s.toList) = false := by rw [beq_eq_false_iff_ne]; exact fun e => q3 (toList_injX e)
    clear q1 q2 q3
    rcases G with ⟨rfl, g1, g2, g3⟩ | g1
    all_goals
      go_enter Tryz.func59, Tryz.ntmps59
      go_wp2_with (first
        | (go_at_call 66; with_reducible refine (HTT.out _).mono ?_; rintro e w1 ⟨rfl, hb1⟩; have HB1 := Lib.hid hb1; have z1 := hb1.size; rw [World.size_alloc] at z1; clear hb1)
        | (go_at_call 67; with_reducible refine (HO2.out _).mono ?_; rintro e w2 ⟨rfl, hb2⟩; have HB2 := Lib.hid hb2; have z2 := hb2.size; have y2 : w.heap.size < w2.heap.size := (by omega); have k2 := hb_below (hb_below (hb_new w _) HB1.out (by simp)) hb2 (by omega); have r0 := hb_at k2 0 rfl; have r1 := hb_at k2 1 rfl; have r2 := hb_at k2 2 rfl; have r3 := hb_at k2 3 rfl; clear hb2 k2))
      have hB2 : Below w.heap.size w w2 := ((below_alloc w _).trans (HB1.out.mono (by simp))).trans (HB2.out.mono (by omega))
      have hB4 := hB2.alloc hB2.size (.cells #[.int .i64 uk, .string us, .int .i64 un, .int .i64 0] 67)
      go_ret
      exact ⟨ret_bool HB.out.symm, hB4⟩
  have p3 : (us.toList == s.toList) = true := by rw [q3]; simp
  by_cases q4 : un = n
  rotate_left
  · have HB := Lib.hid (rightB_no (fun h => q4 (HI2.out.1 h).2.2.2))
    have p4 : (un == n) = false := by simpa using q4
    clear q1 q2 q3 q4
    rcases G with ⟨rfl, g1, g2, g3⟩ | g1
    all_goals
      go_enter Tryz.func59, Tryz.ntmps59
      go_wp2_with (first
        | (go_at_call 66; with_reducible refine (HTT.out _).mono ?_; rintro e w1 ⟨rfl, hb1⟩; have HB1 := Lib.hid hb1; have z1 := hb1.size; rw [World.size_alloc] at z1; clear hb1)
        | (go_at_call 67; with_reducible refine (HO2.out _).mono ?_; rintro e w2 ⟨rfl, hb2⟩; have HB2 := Lib.hid hb2; have z2 := hb2.size; have y2 : w.heap.size < w2.heap.size := (by omega); have k2 := hb_below (hb_below (hb_new w _) HB1.out (by simp)) hb2 (by omega); have r0 := hb_at k2 0 rfl; have r1 := hb_at k2 1 rfl; have r2 := hb_at k2 2 rfl; have r3 := hb_at k2 3 rfl; clear hb2 k2))
      have hB2 : Below w.heap.size w w2 := ((below_alloc w _).trans (HB1.out.mono (by simp))).trans (HB2.out.mono (by omega))
      have hB4 := hB2.alloc hB2.size (.cells #[.int .i64 uk, .string us, .int .i64 un, .int .i64 0] 67)
      go_ret
      exact ⟨ret_bool HB.out.symm, hB4⟩
  have p4 : (un == n) = true := by simpa using q4
  have HB := Lib.hid (rightB_yes (HI2.out.2 ⟨q1, q2, q3, q4⟩))
  clear q1 q2 q3 q4
  rcases G with ⟨rfl, g1, g2, g3⟩ | g1
  all_goals
    go_enter Tryz.func59, Tryz.ntmps59
    go_wp2_with (first
      | (go_at_call 66; with_reducible refine (HTT.out _).mono ?_; rintro e w1 ⟨rfl, hb1⟩; have HB1 := Lib.hid hb1; have z1 := hb1.size; rw [World.size_alloc] at z1; clear hb1)
      | (go_at_call 67; with_reducible refine (HO2.out _).mono ?_; rintro e w2 ⟨rfl, hb2⟩; have HB2 := Lib.hid hb2; have z2 := hb2.size; have y2 : w.heap.size < w2.heap.size := (by omega); have k2 := hb_below (hb_below (hb_new w _) HB1.out (by simp)) hb2 (by omega); have r0 := hb_at k2 0 rfl; have r1 := hb_at k2 1 rfl; have r2 := hb_at k2 2 rfl; have r3 := hb_at k2 3 rfl; clear hb2 k2))
    have hB2 : Below w.heap.size w w2 := ((below_alloc w _).trans (HB1.out.mono (by simp))).trans (HB2.out.mono (by omega))
    have hB4 := hB2.alloc hB2.size (.cells #[.int .i64 uk, .string us, .int .i64 un, .int .i64 0] 67)
    go_ret
    exact ⟨ret_bool HB.out.symm, hB4⟩
end Go.Proofs.YthcpmdgdbceeiaaGreatDoor
/- Tokens of a term, as the document judges them; which parts a term has. -/
namespace Go.Proofs.YthcpmdgdbceeiaaGreatDoor
open Go.RowKit
set_option linter.unusedSimpArgs false
set_option linter.unusedVariables false
theorem may_any (k : Int) (s : ByteArray) (n : Int) (hs : s.size ≤ 1000000) (w : World) : Calls Tryz.prog 41 #[.int .i64 k, .string s, .int .i64 n] w (Ans (rB k s n) w) := by
  have HR2 : RowKit.Hid (Calls Tryz.prog 59 #[.agg #[.int .i64 k, .string s, .int .i64 n, .int .i64 0]] w fun e w' => e = .returned (.bool (rB k s n)) ∧ Below w.heap.size w w') := Lib.hid (right_doc ⟨k, s, n⟩ 0 hs w)
  go_enter Tryz.func41, Tryz.ntmps41
  go_wp2_with (go_at_call 59; ((with_reducible refine HR2.out.mono ?_); rintro e w1 ⟨rfl, hb⟩))
  go_ret
  exact ⟨rfl, hb⟩
theorem isVar_any (s : ByteArray) (hs : s.size ≤ 1000000) (w : World) : Calls Tryz.prog 36 #[.string s] w (Ans (rB 3 s 0) w) := by
  have HR := Lib.hid (may_any 3 s 0 hs w)
  go_enter Tryz.func36, Tryz.ntmps36
  go_wp2_with (go_at_call 41; ((with_reducible refine HR.out.mono ?_); rintro e w1 ⟨rfl, hb⟩))
  go_ret
  exact ⟨rfl, hb⟩
theorem isLower_any (s : ByteArray) (hs : s.size ≤ 1000000) (w : World) : Calls Tryz.prog 37 #[.string s] w (Ans (rB 1 s 0) w) := by
  have HR := Lib.hid (may_any 1 s 0 hs w)
  go_enter Tryz.func37, Tryz.ntmps37
  go_wp2_with (go_at_call 41; ((with_reducible refine HR.out.mono ?_); rintro e w1 ⟨rfl, hb⟩))
  go_ret
  exact ⟨rfl, hb⟩
theorem isUpper_any (s : ByteArray) (hs : s.size ≤ 1000000) (w : World) : Calls Tryz.prog 42 #[.string s] w (Ans (rB 2 s 0) w) := by
  have HR := Lib.hid (may_any 2 s 0 hs w)
  go_enter Tryz.func42, Tryz.ntmps42
  go_wp2_with (go_at_call 41; ((with_reducible refine HR.out.mono ?_); rintro e w1 ⟨rfl, hb⟩))
  go_ret
  exact ⟨rfl, hb⟩
noncomputable def pkgB (s : ByteArray) : Bool := (s.toList == []) || rB 2 s 0
theorem pkg_any (s : ByteArray) (hs : s.size ≤ 1000000) (w : World) : Calls Tryz.prog 38 #[.string s] w (Ans (pkgB s) w) := by
  have HR := Lib.hid (isUpper_any s hs w)
  unfold pkgB
  cases hp : (s.toList == [])
  all_goals
    go_enter Tryz.func38, Tryz.ntmps38
    go_wp2_with (go_at_call 42; ((with_reducible refine HR.out.mono ?_); rintro e w1 ⟨rfl, hb⟩))
    go_ret
    first
    | exact ⟨rfl, Below.refl _ _⟩
    | exact ⟨rfl, hb⟩
/-- Has a text such a byte, among the first ones? -/
def hasB (s : ByteArray) (c : Int) (k : Nat) : Bool := (s.data.toList.take k).any fun x => ((x.toNat : Int) == c)
theorem take_nextJ {α : Type} {l : List α} {k : Nat} {x : α} (h : l[k]? = some x) : l.take (k + 1) = l.take k ++ [x] := by
  rw [List.take_add_one, h]; rfl
theorem hasB_next {s : ByteArray} {c : Int} {k : Nat} (h : k < s.size) : hasB s c (k + 1) = (hasB s c k || (((s[k]'h).toNat : Int) == c)) := by
  unfold hasB
  rw [take_nextJ (at_list s k h), List.any_append]
  simp
def onlyB (s p n : ByteArray) (N : Int) : Bool := (hasB s 112 s.size || (p.toList == [])) && ((hasB s 110 s.size || (n.toList == [])) && (hasB s 107 s.size || (N == 0)))
set_option maxHeartbeats 4000000 in
set_option maxRecDepth 100000 in
theorem only_any (k : Int) (p n : ByteArray) (N : Int) (q : Option Addr) (l c : Nat) (s : ByteArray) (hs : s.size ≤ 1000) (w : World) : Calls Tryz.prog 35 #[tv k p n N (.slice q l c), .string s] w (Ans (onlyB s p n N) w) := by
  unfold onlyB
  have hnew := Lib.hid (hb_new w (.cells #[.int .i64 k, .string p, .string n, .int .i64 N, .slice q l c] 24))
  go_enter Tryz.func35, Tryz.ntmps35
  go_wp2
  go_loopw [5, 6, 7, 8] (fun a b d i wr => ∃ j : Nat, j ≤ s.size ∧ a = .bool (hasB s 112 j) ∧ b = .bool (hasB s 110 j) ∧ d = .bool (hasB s 107 j) ∧ i = .int .i64 j ∧ wr = w.alloc (.cells #[.int .i64 k, .string p, .string n, .int .i64 N, .slice q l c] 24)) (fun _ _ _ i _ => s.size - (intOf i).toNat)
  case atStart => exact ⟨0, Nat.zero_le _, rfl, rfl, rfl, rfl, rfl⟩
  case round =>
    obtain ⟨j, hj, rfl, rfl, rfl, rfl, rfl⟩ := hrel
    by_cases hlt : j < s.size
    · have hki : (j : Int) < (s.size : Int) := by omega
      have e1 := hasB_next (c := 112) hlt
      have e2 := hasB_next (c := 110) hlt
      have e3 := hasB_next (c := 107) hlt
      have E1 := Lib.hid e1
      have E2 := Lib.hid e2
      have E3 := Lib.hid e3
      clear e1 e2 e3
      cases f1 : hasB s 112 j <;> cases f2 : hasB s 110 j <;> cases f3 : hasB s 107 j
      all_goals
        rw [f1] at E1
        rw [f2] at E2
        rw [f3] at E3
        go_wp2
        exact ⟨⟨j + 1, by omega, by rw [E1.out]; rfl, by rw [E2.out]; rfl, by rw [E3.out]; rfl, by first | rfl | trivial, by first | rfl | trivial⟩, by simp [intOf]; omega⟩
    · have hki : ¬ (j : Int) < (s.size : Int) := by omega
      obtain rfl : j = s.size := by omega
      have m1 := hb_at hnew.out 1 rfl
      have m2 := hb_at hnew.out 2 rfl
      have m3 := hb_at hnew.out 3 rfl
      generalize hasB s 112 s.size = f1 at *
      generalize hasB s 110 s.size = f2 at *
      generalize hasB s 107 s.size = f3 at *
      cases f1 <;> cases f2 <;> cases f3 <;> cases hp : (p.toList == []) <;> cases hn : (n.toList == [])
      all_goals
        go_wp2
        go_ret
        exact ⟨by first | rfl | simp, below_alloc w _⟩
end Go.Proofs.YthcpmdgdbceeiaaGreatDoor
/- Are all Kids so? -/
namespace Go.Proofs.YthcpmdgdbceeiaaGreatDoor
open Go.RowKit
set_option linter.unusedSimpArgs false
set_option linter.unusedVariables false
/-- Names are short, numbers are ints. -/
def Gd : Nat → Tm → Prop
  | 0, _ => True
  | d + 1, .mk _ p n N kids => p.size ≤ 100000 ∧ n.size ≤ 100000 ∧ Fits ⟨4, ⟨#[]⟩, N⟩ ∧ ∀ x ∈ kids, Gd d x
/-- A function that judges terms, of a depth. -/
def Judge (K : Nat) (f : Tm → Bool) (d : Nat) : Prop := ∀ (v : Value) (x : Tm) (W : World), IsT W d v x → Gd d x → LxW W → Calls Tryz.prog K #[v] W (Ans (f x) W)
theorem kids_no {f : Tm → Bool} {kids : List Tm} {x : Tm} (hx : x ∈ kids) (hf : f x = false) : kids.all f = false := by
  cases e : kids.all f with
  | false => rfl
  | true =>
    have := List.all_eq_true.1 e x hx
    rw [hf] at this
    cases this
theorem take_all {f : Tm → Bool} {kids : List Tm} {k : Nat} {x : Tm} (hx : kids[k]? = some x) (hP : ∀ y ∈ kids.take k, f y = true) (hf : f x = true) : ∀ y ∈ kids.take (k + 1), f y = true := by
  intro y hy
  rw [take_nextJ hx] at hy
  rcases List.mem_append.1 hy with h | h
  · exact hP y h
  · rw [List.mem_singleton.1 h]; exact hf
set_option maxRecDepth 100000 in
set_option maxHeartbeats 2000000 in
theorem areAll_any9 (f : Tm → Bool) (d : Nat) (kids : List Tm) (h : Judge 9 f d) (hG : ∀ x ∈ kids, Gd d x) (s : Value) (w : World) (hw : LxW w) (hk : KidsT w d s kids) : Calls Tryz.prog 32 #[s, .func (.func 9) #[] #[]] w (Ans (kids.all f) w) := by
  obtain ⟨q, c, rfl, hm, hr⟩ := hk
  unfold maxLen at hm
  have HR := Lib.hid hr
  unfold Judge at h
  have HA := Lib.hid h
  have HW := Lib.hid hw
  have HGD := Lib.hid hG
  clear hr h hw hG
  go_enter Tryz.func32, Tryz.ntmps32
  go_wp2
  go_loopw [9] (fun i wr => ∃ k : Nat, k ≤ kids.length ∧ i = .int .i64 k ∧ (∀ x ∈ kids.take k, f x = true) ∧ Below w.heap.size w wr) (fun i _ => kids.length - (intOf i).toNat)
  case atStart => exact ⟨0, Nat.zero_le _, rfl, (fun x hx => by simp at hx), Below.refl _ _⟩
  case round =>
    obtain ⟨k, hk, rfl, hP, hB⟩ := hrel
    have hzr := hB.size
    have HB := Lib.hid hB
    have HP := Lib.hid hP
    clear hP
    by_cases hlt : k < kids.length
    · have hx1 := List.getElem?_eq_getElem hlt
      generalize kids[k] = x at *
      obtain ⟨b1, o1, k1', p1', n1', N1', s1', hq1, ha1, ht1⟩ := HR.out k x hx1
      subst hq1
      obtain ⟨q3, l3, c3, hs3⟩ := ht1.spell
      subst hs3
      obtain ⟨x0, x1, x2, x3, x4⟩ := ha1.below hB ha1.lt
      have hxm : x ∈ kids := List.mem_of_getElem? hx1
      have HC : RowKit.Hid (∀ W, Below wr.heap.size wr W → Calls Tryz.prog 9 #[tv k1' p1' n1' N1' (.slice q3 l3 c3)] W (Ans (f x) W)) :=
        Lib.hid fun W hW => HA.out _ x W ((ht1.below hB).below hW) (HGD.out x hxm) ((HW.out.below hB).below hW)
      have HX := Lib.hid hx1
      have HXM := Lib.hid hxm
      clear hx1 ht1 ha1 hB hxm
      cases hf : f x
      · have HF := Lib.hid hf
        rw [hf] at HC
        clear hf
        go_wp2_with (go_at_call 9; ((with_reducible refine (HC.out _ (below_alloc wr _)).mono ?_); rintro e w3 ⟨rfl, hb⟩))
        have HQ := Lib.hid (HB.out.trans (((below_alloc wr _).trans (hb.mono (by simp))).mono hzr))
        go_ret
        exact ⟨ret_bool (kids_no HXM.out HF.out).symm, HQ.out⟩
      · have HF := Lib.hid hf
        rw [hf] at HC
        clear hf
        go_wp2_with (go_at_call 9; ((with_reducible refine (HC.out _ (below_alloc wr _)).mono ?_); rintro e w3 ⟨rfl, hb⟩))
        have HQ := Lib.hid (HB.out.trans (((below_alloc wr _).trans (hb.mono (by simp))).mono hzr))
        go_roundw
        case rel => exact ⟨k + 1, by omega, by go_num, take_all HX.out HP.out HF.out, HQ.out⟩
        case measure => simp [intOf]; omega
    · obtain rfl : k = kids.length := by omega
      rw [List.take_length] at HP
      go_wp2
      go_ret
      exact ⟨ret_bool (List.all_eq_true.2 HP.out).symm, HB.out⟩
set_option maxRecDepth 100000 in
set_option maxHeartbeats 2000000 in
theorem areAll_any11 (f : Tm → Bool) (d : Nat) (kids : List Tm) (h : Judge 11 f d) (hG : ∀ x ∈ kids, Gd d x) (s : Value) (w : World) (hw : LxW w) (hk : KidsT w d s kids) : Calls Tryz.prog 32 #[s, .func (.func 11) #[] #[]] w (Ans (kids.all f) w) := by
  obtain ⟨q, c, rfl, hm, hr⟩ := hk
  unfold maxLen at hm
  have HR := Lib.hid hr
  unfold Judge at h
  have HA := Lib.hid h
  have HW := Lib.hid hw
  have HGD := Lib.hid hG
  clear hr h hw hG
  go_enter Tryz.func32, Tryz.ntmps32
  go_wp2
  go_loopw [9] (fun i wr => ∃ k : Nat, k ≤ kids.length ∧ i = .int .i64 k ∧ (∀ x ∈ kids.take k, f x = true) ∧ Below w.heap.size w wr) (fun i _ => kids.length - (intOf i).toNat)
  case atStart => exact ⟨0, Nat.zero_le _, rfl, (fun x hx => by simp at hx), Below.refl _ _⟩
  case round =>
    obtain ⟨k, hk, rfl, hP, hB⟩ := hrel
    have hzr := hB.size
    have HB := Lib.hid hB
    have HP := Lib.hid hP
    clear hP
    by_cases hlt : k < kids.length
    · have hx1 := List.getElem?_eq_getElem hlt
      generalize kids[k] = x at *
      obtain ⟨b1, o1, k1', p1', n1', N1', s1', hq1, ha1, ht1⟩ := HR.out k x hx1
      subst hq1
      obtain ⟨q3, l3, c3, hs3⟩ := ht1.spell
      subst hs3
      obtain ⟨x0, x1, x2, x3, x4⟩ := ha1.below hB ha1.lt
      have hxm : x ∈ kids := List.mem_of_getElem? hx1
      have HC : RowKit.Hid (∀ W, Below wr.heap.size wr W → Calls Tryz.prog 11 #[tv k1' p1' n1' N1' (.slice q3 l3 c3)] W (Ans (f x) W)) :=
        Lib.hid fun W hW => HA.out _ x W ((ht1.below hB).below hW) (HGD.out x hxm) ((HW.out.below hB).below hW)
      have HX := Lib.hid hx1
      have HXM := Lib.hid hxm
      clear hx1 ht1 ha1 hB hxm
      cases hf : f x
      · have HF := Lib.hid hf
        rw [hf] at HC
        clear hf
        go_wp2_with (go_at_call 11; ((with_reducible refine (HC.out _ (below_alloc wr _)).mono ?_); rintro e w3 ⟨rfl, hb⟩))
        have HQ := Lib.hid (HB.out.trans (((below_alloc wr _).trans (hb.mono (by simp))).mono hzr))
        go_ret
        exact ⟨ret_bool (kids_no HXM.out HF.out).symm, HQ.out⟩
      · have HF := Lib.hid hf
        rw [hf] at HC
        clear hf
        go_wp2_with (go_at_call 11; ((with_reducible refine (HC.out _ (below_alloc wr _)).mono ?_); rintro e w3 ⟨rfl, hb⟩))
        have HQ := Lib.hid (HB.out.trans (((below_alloc wr _).trans (hb.mono (by simp))).mono hzr))
        go_roundw
        case rel => exact ⟨k + 1, by omega, by go_num, take_all HX.out HP.out HF.out, HQ.out⟩
        case measure => simp [intOf]; omega
    · obtain rfl : k = kids.length := by omega
      rw [List.take_length] at HP
      go_wp2
      go_ret
      exact ⟨ret_bool (List.all_eq_true.2 HP.out).symm, HB.out⟩
set_option maxRecDepth 100000 in
set_option maxHeartbeats 2000000 in
theorem areAll_any13 (f : Tm → Bool) (d : Nat) (kids : List Tm) (h : Judge 13 f d) (hG : ∀ x ∈ kids, Gd d x) (s : Value) (w : World) (hw : LxW w) (hk : KidsT w d s kids) : Calls Tryz.prog 32 #[s, .func (.func 13) #[] #[]] w (Ans (kids.all f) w) := by
  obtain ⟨q, c, rfl, hm, hr⟩ := hk
  unfold maxLen at hm
  have HR := Lib.hid hr
  unfold Judge at h
  have HA := Lib.hid h
  have HW := Lib.hid hw
  have HGD := Lib.hid hG
  clear hr h hw hG
  go_enter Tryz.func32, Tryz.ntmps32
  go_wp2
  go_loopw [9] (fun i wr => ∃ k : Nat, k ≤ kids.length ∧ i = .int .i64 k ∧ (∀ x ∈ kids.take k, f x = true) ∧ Below w.heap.size w wr) (fun i _ => kids.length - (intOf i).toNat)
  case atStart => exact ⟨0, Nat.zero_le _, rfl, (fun x hx => by simp at hx), Below.refl _ _⟩
  case round =>
    obtain ⟨k, hk, rfl, hP, hB⟩ := hrel
    have hzr := hB.size
    have HB := Lib.hid hB
    have HP := Lib.hid hP
    clear hP
    by_cases hlt : k < kids.length
    · have hx1 := List.getElem?_eq_getElem hlt
      generalize kids[k] = x at *
      obtain ⟨b1, o1, k1', p1', n1', N1', s1', hq1, ha1, ht1⟩ := HR.out k x hx1
      subst hq1
      obtain ⟨q3, l3, c3, hs3⟩ := ht1.spell
      subst hs3
      obtain ⟨x0, x1, x2, x3, x4⟩ := ha1.below hB ha1.lt
      have hxm : x ∈ kids := List.mem_of_getElem? hx1
      have HC : RowKit.Hid (∀ W, Below wr.heap.size wr W → Calls Tryz.prog 13 #[tv k1' p1' n1' N1' (.slice q3 l3 c3)] W (Ans (f x) W)) :=
        Lib.hid fun W hW => HA.out _ x W ((ht1.below hB).below hW) (HGD.out x hxm) ((HW.out.below hB).below hW)
      have HX := Lib.hid hx1
      have HXM := Lib.hid hxm
      clear hx1 ht1 ha1 hB hxm
      cases hf : f x
      · have HF := Lib.hid hf
        rw [hf] at HC
        clear hf
        go_wp2_with (go_at_call 13; ((with_reducible refine (HC.out _ (below_alloc wr _)).mono ?_); rintro e w3 ⟨rfl, hb⟩))
        have HQ := Lib.hid (HB.out.trans (((below_alloc wr _).trans (hb.mono (by simp))).mono hzr))
        go_ret
        exact ⟨ret_bool (kids_no HXM.out HF.out).symm, HQ.out⟩
      · have HF := Lib.hid hf
        rw [hf] at HC
        clear hf
        go_wp2_with (go_at_call 13; ((with_reducible refine (HC.out _ (below_alloc wr _)).mono ?_); rintro e w3 ⟨rfl, hb⟩))
        have HQ := Lib.hid (HB.out.trans (((below_alloc wr _).trans (hb.mono (by simp))).mono hzr))
        go_roundw
        case rel => exact ⟨k + 1, by omega, by go_num, take_all HX.out HP.out HF.out, HQ.out⟩
        case measure => simp [intOf]; omega
    · obtain rfl : k = kids.length := by omega
      rw [List.take_length] at HP
      go_wp2
      go_ret
      exact ⟨ret_bool (List.all_eq_true.2 HP.out).symm, HB.out⟩
set_option maxRecDepth 100000 in
set_option maxHeartbeats 2000000 in
theorem types_any (f : Tm → Bool) (d : Nat) (kids : List Tm) (h : Judge 10 f d) (hG : ∀ x ∈ kids, Gd d x) (s : Value) (w : World) (hw : LxW w) (hk : KidsT w d s kids) : Calls Tryz.prog 39 #[s] w (Ans (kids.all f) w) := by
  obtain ⟨q, c, rfl, hm, hr⟩ := hk
  unfold maxLen at hm
  have HR := Lib.hid hr
  unfold Judge at h
  have HA := Lib.hid h
  have HW := Lib.hid hw
  have HGD := Lib.hid hG
  clear hr h hw hG
  go_enter Tryz.func39, Tryz.ntmps39
  go_wp2
  go_loopw [3] (fun i wr => ∃ k : Nat, k ≤ kids.length ∧ i = .int .i64 k ∧ (∀ x ∈ kids.take k, f x = true) ∧ Below w.heap.size w wr) (fun i _ => kids.length - (intOf i).toNat)
  case atStart => exact ⟨0, Nat.zero_le _, rfl, (fun x hx => by simp at hx), Below.refl _ _⟩
  case round =>
    obtain ⟨k, hk, rfl, hP, hB⟩ := hrel
    have hzr := hB.size
    have HB := Lib.hid hB
    have HP := Lib.hid hP
    clear hP
    by_cases hlt : k < kids.length
    · have hki : (k : Int) < (kids.length : Int) := by omega
      have hx1 := List.getElem?_eq_getElem hlt
      generalize kids[k] = x at *
      obtain ⟨b1, o1, k1', p1', n1', N1', s1', hq1, ha1, ht1⟩ := HR.out k x hx1
      subst hq1
      obtain ⟨q3, l3, c3, hs3⟩ := ht1.spell
      subst hs3
      obtain ⟨x0, x1, x2, x3, x4⟩ := ha1.below hB ha1.lt
      have hxm : x ∈ kids := List.mem_of_getElem? hx1
      have HC : RowKit.Hid (Calls Tryz.prog 10 #[tv k1' p1' n1' N1' (.slice q3 l3 c3)] wr (Ans (f x) wr)) :=
        Lib.hid (HA.out _ x wr (ht1.below hB) (HGD.out x hxm) (HW.out.below hB))
      have HX := Lib.hid hx1
      have HXM := Lib.hid hxm
      clear hx1 ht1 ha1 hB hxm
      cases hf : f x
      · have HF := Lib.hid hf
        rw [hf] at HC
        clear hf
        go_wp2_with (go_at_call 10; ((with_reducible refine HC.out.mono ?_); rintro e w3 ⟨rfl, hb⟩))
        have HQ := Lib.hid (HB.out.trans (hb.mono hzr))
        go_ret
        exact ⟨ret_bool (kids_no HXM.out HF.out).symm, HQ.out⟩
      · have HF := Lib.hid hf
        rw [hf] at HC
        clear hf
        go_wp2_with (go_at_call 10; ((with_reducible refine HC.out.mono ?_); rintro e w3 ⟨rfl, hb⟩))
        have HQ := Lib.hid (HB.out.trans (hb.mono hzr))
        go_roundw
        case rel => exact ⟨k + 1, by omega, by go_num, take_all HX.out HP.out HF.out, HQ.out⟩
        case measure => simp [intOf]; omega
    · have hki : ¬ (k : Int) < (kids.length : Int) := by omega
      obtain rfl : k = kids.length := by omega
      rw [List.take_length] at HP
      go_wp2
      go_ret
      exact ⟨ret_bool (List.all_eq_true.2 HP.out).symm, HB.out⟩
set_option maxRecDepth 100000 in
set_option maxHeartbeats 2000000 in
theorem pats_any (f : Tm → Bool) (d : Nat) (kids : List Tm) (h : Judge 12 f d) (hG : ∀ x ∈ kids, Gd d x) (s : Value) (w : World) (hw : LxW w) (hk : KidsT w d s kids) : Calls Tryz.prog 43 #[s] w (Ans (kids.all f) w) := by
  obtain ⟨q, c, rfl, hm, hr⟩ := hk
  unfold maxLen at hm
  have HR := Lib.hid hr
  unfold Judge at h
  have HA := Lib.hid h
  have HW := Lib.hid hw
  have HGD := Lib.hid hG
  clear hr h hw hG
  go_enter Tryz.func43, Tryz.ntmps43
  go_wp2
  go_loopw [3] (fun i wr => ∃ k : Nat, k ≤ kids.length ∧ i = .int .i64 k ∧ (∀ x ∈ kids.take k, f x = true) ∧ Below w.heap.size w wr) (fun i _ => kids.length - (intOf i).toNat)
  case atStart => exact ⟨0, Nat.zero_le _, rfl, (fun x hx => by simp at hx), Below.refl _ _⟩
  case round =>
    obtain ⟨k, hk, rfl, hP, hB⟩ := hrel
    have hzr := hB.size
    have HB := Lib.hid hB
    have HP := Lib.hid hP
    clear hP
    by_cases hlt : k < kids.length
    · have hki : (k : Int) < (kids.length : Int) := by omega
      have hx1 := List.getElem?_eq_getElem hlt
      generalize kids[k] = x at *
      obtain ⟨b1, o1, k1', p1', n1', N1', s1', hq1, ha1, ht1⟩ := HR.out k x hx1
      subst hq1
      obtain ⟨q3, l3, c3, hs3⟩ := ht1.spell
      subst hs3
      obtain ⟨x0, x1, x2, x3, x4⟩ := ha1.below hB ha1.lt
      have hxm : x ∈ kids := List.mem_of_getElem? hx1
      have HC : RowKit.Hid (Calls Tryz.prog 12 #[tv k1' p1' n1' N1' (.slice q3 l3 c3)] wr (Ans (f x) wr)) :=
        Lib.hid (HA.out _ x wr (ht1.below hB) (HGD.out x hxm) (HW.out.below hB))
      have HX := Lib.hid hx1
      have HXM := Lib.hid hxm
      clear hx1 ht1 ha1 hB hxm
      cases hf : f x
      · have HF := Lib.hid hf
        rw [hf] at HC
        clear hf
        go_wp2_with (go_at_call 12; ((with_reducible refine HC.out.mono ?_); rintro e w3 ⟨rfl, hb⟩))
        have HQ := Lib.hid (HB.out.trans (hb.mono hzr))
        go_ret
        exact ⟨ret_bool (kids_no HXM.out HF.out).symm, HQ.out⟩
      · have HF := Lib.hid hf
        rw [hf] at HC
        clear hf
        go_wp2_with (go_at_call 12; ((with_reducible refine HC.out.mono ?_); rintro e w3 ⟨rfl, hb⟩))
        have HQ := Lib.hid (HB.out.trans (hb.mono hzr))
        go_roundw
        case rel => exact ⟨k + 1, by omega, by go_num, take_all HX.out HP.out HF.out, HQ.out⟩
        case measure => simp [intOf]; omega
    · have hki : ¬ (k : Int) < (kids.length : Int) := by omega
      obtain rfl : k = kids.length := by omega
      rw [List.take_length] at HP
      go_wp2
      go_ret
      exact ⟨ret_bool (List.all_eq_true.2 HP.out).symm, HB.out⟩
set_option maxRecDepth 100000 in
set_option maxHeartbeats 2000000 in
theorem exprs_any (f : Tm → Bool) (d : Nat) (kids : List Tm) (h : Judge 14 f d) (hG : ∀ x ∈ kids, Gd d x) (s : Value) (w : World) (hw : LxW w) (hk : KidsT w d s kids) : Calls Tryz.prog 46 #[s] w (Ans (kids.all f) w) := by
  obtain ⟨q, c, rfl, hm, hr⟩ := hk
  unfold maxLen at hm
  have HR := Lib.hid hr
  unfold Judge at h
  have HA := Lib.hid h
  have HW := Lib.hid hw
  have HGD := Lib.hid hG
  clear hr h hw hG
  go_enter Tryz.func46, Tryz.ntmps46
  go_wp2
  go_loopw [3] (fun i wr => ∃ k : Nat, k ≤ kids.length ∧ i = .int .i64 k ∧ (∀ x ∈ kids.take k, f x = true) ∧ Below w.heap.size w wr) (fun i _ => kids.length - (intOf i).toNat)
  case atStart => exact ⟨0, Nat.zero_le _, rfl, (fun x hx => by simp at hx), Below.refl _ _⟩
  case round =>
    obtain ⟨k, hk, rfl, hP, hB⟩ := hrel
    have hzr := hB.size
    have HB := Lib.hid hB
    have HP := Lib.hid hP
    clear hP
    by_cases hlt : k < kids.length
    · have hki : (k : Int) < (kids.length : Int) := by omega
      have hx1 := List.getElem?_eq_getElem hlt
      generalize kids[k] = x at *
      obtain ⟨b1, o1, k1', p1', n1', N1', s1', hq1, ha1, ht1⟩ := HR.out k x hx1
      subst hq1
      obtain ⟨q3, l3, c3, hs3⟩ := ht1.spell
      subst hs3
      obtain ⟨x0, x1, x2, x3, x4⟩ := ha1.below hB ha1.lt
      have hxm : x ∈ kids := List.mem_of_getElem? hx1
      have HC : RowKit.Hid (Calls Tryz.prog 14 #[tv k1' p1' n1' N1' (.slice q3 l3 c3)] wr (Ans (f x) wr)) :=
        Lib.hid (HA.out _ x wr (ht1.below hB) (HGD.out x hxm) (HW.out.below hB))
      have HX := Lib.hid hx1
      have HXM := Lib.hid hxm
      clear hx1 ht1 ha1 hB hxm
      cases hf : f x
      · have HF := Lib.hid hf
        rw [hf] at HC
        clear hf
        go_wp2_with (go_at_call 14; ((with_reducible refine HC.out.mono ?_); rintro e w3 ⟨rfl, hb⟩))
        have HQ := Lib.hid (HB.out.trans (hb.mono hzr))
        go_ret
        exact ⟨ret_bool (kids_no HXM.out HF.out).symm, HQ.out⟩
      · have HF := Lib.hid hf
        rw [hf] at HC
        clear hf
        go_wp2_with (go_at_call 14; ((with_reducible refine HC.out.mono ?_); rintro e w3 ⟨rfl, hb⟩))
        have HQ := Lib.hid (HB.out.trans (hb.mono hzr))
        go_roundw
        case rel => exact ⟨k + 1, by omega, by go_num, take_all HX.out HP.out HF.out, HQ.out⟩
        case measure => simp [intOf]; omega
    · have hki : ¬ (k : Int) < (kids.length : Int) := by omega
      obtain rfl : k = kids.length := by omega
      rw [List.take_length] at HP
      go_wp2
      go_ret
      exact ⟨ret_bool (List.all_eq_true.2 HP.out).symm, HB.out⟩
end Go.Proofs.YthcpmdgdbceeiaaGreatDoor
