
/- What bytes are: letters, digits, blanks; runs of them. -/
import Derived.Test.YtpedmkdpbdhenaaGreatDoorB1
import Derived.Deep.DeepCutAuto
import Derived.Outline
namespace Go.Proofs.YtpedmkdpbdhenaaGreatDoor
open Go.RowKit
set_option linter.unusedSimpArgs false
set_option linter.unusedVariables false
def smB (c : UInt8) : Bool := decide (97 ≤ c.toNat) && decide (c.toNat ≤ 122)
theorem isSmall_any (c : UInt8) (w : World) : Calls Tryz.prog 28 #[.int .u8 (c.toNat : Nat)] w fun e w' => e = .returned (.bool (smB c)) ∧ w = w' := by
  have hc : c.toNat < 256 := c.toNat_lt
  have hp : smB c = (decide (97 ≤ c.toNat) && decide (c.toNat ≤ 122)) := rfl
  rw [hp]
  clear hp
  generalize c.toNat = n at *
  by_cases h1 : 97 ≤ n
  · have d1 : decide ((97 : Int) ≤ (n : Int)) = true := by simp; omega
    have e1 : decide (97 ≤ n) = true := by simpa using h1
    by_cases h2 : n ≤ 122
    · have d2 : decide ((n : Int) ≤ 122) = true := by simp; omega
      have e2 : decide (n ≤ 122) = true := by simpa using h2
      rw [e1, e2]
      clear e1 e2
      go_enter Tryz.func28, Tryz.ntmps28
      go_wp2
      go_ret
      exact ⟨rfl, rfl⟩
    · have d2 : decide ((n : Int) ≤ 122) = false := by simp; omega
      have e2 : decide (n ≤ 122) = false := by simpa using h2
      rw [e1, e2]
      clear e1 e2
      go_enter Tryz.func28, Tryz.ntmps28
      go_wp2
      go_ret
      exact ⟨rfl, rfl⟩
  · have d1 : decide ((97 : Int) ≤ (n : Int)) = false := by simp; omega
    have e1 : decide (97 ≤ n) = false := by simpa using h1
    rw [e1, Bool.false_and]
    clear e1
    go_enter Tryz.func28, Tryz.ntmps28
    go_wp2
    go_ret
    exact ⟨rfl, rfl⟩
def grB (c : UInt8) : Bool := decide (65 ≤ c.toNat) && decide (c.toNat ≤ 90)
theorem isGreat_any (c : UInt8) (w : World) : Calls Tryz.prog 32 #[.int .u8 (c.toNat : Nat)] w fun e w' => e = .returned (.bool (grB c)) ∧ w = w' := by
  have hc : c.toNat < 256 := c.toNat_lt
  have hp : grB c = (decide (65 ≤ c.toNat) && decide (c.toNat ≤ 90)) := rfl
  rw [hp]
  clear hp
  generalize c.toNat = n at *
  by_cases h1 : 65 ≤ n
  · have d1 : decide ((65 : Int) ≤ (n : Int)) = true := by simp; omega
    have e1 : decide (65 ≤ n) = true := by simpa using h1
    by_cases h2 : n ≤ 90
    · have d2 : decide ((n : Int) ≤ 90) = true := by simp; omega
      have e2 : decide (n ≤ 90) = true := by simpa using h2
      rw [e1, e2]
      clear e1 e2
      go_enter Tryz.func32, Tryz.ntmps32
      go_wp2
      go_ret
      exact ⟨rfl, rfl⟩
    · have d2 : decide ((n : Int) ≤ 90) = false := by simp; omega
      have e2 : decide (n ≤ 90) = false := by simpa using h2
      rw [e1, e2]
      clear e1 e2
      go_enter Tryz.func32, Tryz.ntmps32
      go_wp2
      go_ret
      exact ⟨rfl, rfl⟩
  · have d1 : decide ((65 : Int) ≤ (n : Int)) = false := by simp; omega
    have e1 : decide (65 ≤ n) = false := by simpa using h1
    rw [e1, Bool.false_and]
    clear e1
    go_enter Tryz.func32, Tryz.ntmps32
    go_wp2
    go_ret
    exact ⟨rfl, rfl⟩
def dgB (c : UInt8) : Bool := decide (48 ≤ c.toNat) && decide (c.toNat ≤ 57)
theorem lexDigit_any (c : UInt8) (w : World) : Calls Tryz.prog 35 #[.int .u8 (c.toNat : Nat)] w fun e w' => e = .returned (.bool (dgB c)) ∧ w = w' := by
  have hc : c.toNat < 256 := c.toNat_lt
  have hp : dgB c = (decide (48 ≤ c.toNat) && decide (c.toNat ≤ 57)) := rfl
  rw [hp]
  clear hp
  generalize c.toNat = n at *
  by_cases h1 : 48 ≤ n
  · have d1 : decide ((48 : Int) ≤ (n : Int)) = true := by simp; omega
    have e1 : decide (48 ≤ n) = true := by simpa using h1
    by_cases h2 : n ≤ 57
    · have d2 : decide ((n : Int) ≤ 57) = true := by simp; omega
      have e2 : decide (n ≤ 57) = true := by simpa using h2
      rw [e1, e2]
      clear e1 e2
      go_enter Tryz.func35, Tryz.ntmps35
      go_wp2
      go_ret
      exact ⟨rfl, rfl⟩
    · have d2 : decide ((n : Int) ≤ 57) = false := by simp; omega
      have e2 : decide (n ≤ 57) = false := by simpa using h2
      rw [e1, e2]
      clear e1 e2
      go_enter Tryz.func35, Tryz.ntmps35
      go_wp2
      go_ret
      exact ⟨rfl, rfl⟩
  · have d1 : decide ((48 : Int) ≤ (n : Int)) = false := by simp; omega
    have e1 : decide (48 ≤ n) = false := by simpa using h1
    rw [e1, Bool.false_and]
    clear e1
    go_enter Tryz.func35, Tryz.ntmps35
    go_wp2
    go_ret
    exact ⟨rfl, rfl⟩
def blB (c : UInt8) : Bool := decide (c.toNat = 32) || decide (c.toNat = 9) || decide (c.toNat = 10)
theorem isBlank_any (c : UInt8) (w : World) : Calls Tryz.prog 47 #[.int .u8 (c.toNat : Nat)] w fun e w' => e = .returned (.bool (blB c)) ∧ w = w' := by
  have hp : blB c = (decide (c.toNat = 32) || decide (c.toNat = 9) || decide (c.toNat = 10)) := rfl
  rw [hp]
  clear hp
  generalize c.toNat = n at *
  by_cases h1 : n = 32
  · subst h1
    go_enter Tryz.func47, Tryz.ntmps47
    go_wp2
    go_ret
    exact ⟨rfl, rfl⟩
  have d1 : ((n : Int) == 32) = false := by rw [beq_eq_false_iff_ne]; omega
  have e1 : decide (n = 32) = false := by simpa using h1
  rw [e1, Bool.false_or]
  clear e1 h1
  by_cases h2 : n = 9
  · subst h2
    go_enter Tryz.func47, Tryz.ntmps47
    go_wp2
    go_ret
    exact ⟨rfl, rfl⟩
  have d2 : ((n : Int) == 9) = false := by rw [beq_eq_false_iff_ne]; omega
  have e2 : decide (n = 9) = false := by simpa using h2
  rw [e2, Bool.false_or]
  clear e2 h2
  by_cases h3 : n = 10
  · subst h3
    go_enter Tryz.func47, Tryz.ntmps47
    go_wp2
    go_ret
    exact ⟨rfl, rfl⟩
  have d3 : ((n : Int) == 10) = false := by rw [beq_eq_false_iff_ne]; omega
  have e3 : decide (n = 10) = false := by simpa using h3
  rw [e3]
  clear e3 h3
  go_enter Tryz.func47, Tryz.ntmps47
  go_wp2
  go_ret
  exact ⟨rfl, rfl⟩
def notNl (c : UInt8) : Bool := !decide (c.toNat = 10)
theorem notNl_any (c : UInt8) (w : World) : Calls Tryz.prog 48 #[.int .u8 (c.toNat : Nat)] w fun e w' => e = .returned (.bool (notNl c)) ∧ w = w' := by
  have hp : notNl c = !decide (c.toNat = 10) := rfl
  rw [hp]
  clear hp
  generalize c.toNat = n at *
  by_cases h1 : n = 10
  · subst h1
    go_enter Tryz.func48, Tryz.ntmps48
    go_wp2
    go_ret
    exact ⟨rfl, rfl⟩
  have d1 : ((n : Int) != 10) = true := by simp; omega
  have e1 : decide (n = 10) = false := by simpa using h1
  rw [e1]
  clear e1 h1
  go_enter Tryz.func48, Tryz.ntmps48
  go_wp2
  go_ret
  exact ⟨rfl, rfl⟩
def nmB (c : UInt8) : Bool := smB c || grB c || dgB c || decide (c.toNat = 95) || decide (c.toNat = 39)
set_option maxHeartbeats 1000000 in
theorem isNameByte_any (c : UInt8) (w : World) : Calls Tryz.prog 30 #[.int .u8 (c.toNat : Nat)] w fun e w' => e = .returned (.bool (nmB c)) ∧ w = w' := by
  have hp : nmB c = (smB c || grB c || dgB c || decide (c.toNat = 95) || decide (c.toNat = 39)) := rfl
  rw [hp]
  clear hp
  have H1 := Lib.hid (isSmall_any c w)
  have H2 := Lib.hid (isGreat_any c w)
  have H3 := Lib.hid (lexDigit_any c w)
  generalize smB c = b1 at *
  generalize grB c = b2 at *
  generalize dgB c = b3 at *
  generalize c.toNat = n at *
  have hd : (decide (n = 95) = true ∧ ((n : Int) == 95) = true) ∨ (decide (n = 95) = false ∧ ((n : Int) == 95) = false) := by
    by_cases h : n = 95
    · exact .inl ⟨by simpa using h, by subst h; rfl⟩
    · exact .inr ⟨by simpa using h, by rw [beq_eq_false_iff_ne]; omega⟩
  have hf : (decide (n = 39) = true ∧ ((n : Int) == 39) = true) ∨ (decide (n = 39) = false ∧ ((n : Int) == 39) = false) := by
    by_cases h : n = 39
    · exact .inl ⟨by simpa using h, by subst h; rfl⟩
    · exact .inr ⟨by simpa using h, by rw [beq_eq_false_iff_ne]; omega⟩
  rcases hd with ⟨e1, d1⟩ | ⟨e1, d1⟩ <;> rcases hf with ⟨e2, d2⟩ | ⟨e2, d2⟩ <;> rw [e1, e2] <;> clear e1 e2 <;> cases b1 <;> cases b2 <;> cases b3
  all_goals
    go_enter Tryz.func30, Tryz.ntmps30
    go_wp2_with (first
      | (go_at_call 28; refine H1.out.mono ?_; rintro e w1 ⟨rfl, rfl⟩)
      | (go_at_call 32; refine H2.out.mono ?_; rintro e w1 ⟨rfl, rfl⟩)
      | (go_at_call 35; refine H3.out.mono ?_; rintro e w1 ⟨rfl, rfl⟩))
    go_ret
    first | exact ⟨rfl, rfl⟩ | exact ⟨congrArg (fun b => Ending.returned (.bool b)) d2, rfl⟩
def vrB (c : UInt8) : Bool := nmB c && !decide (c.toNat = 39)
theorem varByte_any (c : UInt8) (w : World) : Calls Tryz.prog 54 #[.int .u8 (c.toNat : Nat)] w fun e w' => e = .returned (.bool (vrB c)) ∧ w = w' := by
  have hp : vrB c = (nmB c && !decide (c.toNat = 39)) := rfl
  rw [hp]
  clear hp
  have H1 := Lib.hid (isNameByte_any c w)
  generalize nmB c = b1 at *
  generalize c.toNat = n at *
  have hf : (decide (n = 39) = true ∧ ((n : Int) != 39) = false) ∨ (decide (n = 39) = false ∧ ((n : Int) != 39) = true) := by
    by_cases h : n = 39
    · exact .inl ⟨by simpa using h, by subst h; rfl⟩
    · exact .inr ⟨by simpa using h, by simp; omega⟩
  rcases hf with ⟨e2, d2⟩ | ⟨e2, d2⟩ <;> rw [e2] <;> clear e2 <;> cases b1
  all_goals
    go_enter Tryz.func54, Tryz.ntmps54
    go_wp2_with (go_at_call 30; refine H1.out.mono ?_; rintro e w1 ⟨rfl, rfl⟩)
    go_ret
    first | exact ⟨rfl, rfl⟩ | exact ⟨congrArg (fun b => Ending.returned (.bool b)) d2, rfl⟩
/-- How many bytes a run has. -/
def cnt (p : UInt8 → Bool) (l : List UInt8) : Nat := (l.takeWhile p).length
theorem cnt_le (p : UInt8 → Bool) (l : List UInt8) : cnt p l ≤ l.length := by
  unfold cnt
  induction l with
  | nil => simp
  | cons c l ih => rw [List.takeWhile_cons]; split <;> simp <;> omega
theorem cnt_stop {p : UInt8 → Bool} : ∀ {l : List UInt8} {j : Nat}, (∀ i c, i < j → l[i]? = some c → p c = true) → (∀ c, l[j]? = some c → p c = false) → j ≤ l.length → cnt p l = j := by
  intro l
  unfold cnt
  induction l with
  | nil => intro j _ _ h; simp at h; simp [h]
  | cons c l ih =>
    intro j h1 h2 h3
    cases j with
    | zero => rw [List.takeWhile_cons, h2 c rfl]; simp
    | succ j =>
      rw [List.takeWhile_cons, h1 0 c (by omega) rfl]
      simp only [if_true, List.length_cons]
      rw [ih (j := j) (fun i c' hi hc => h1 (i + 1) c' (by omega) hc) (fun c' hc => h2 c' hc) (by simpa using h3)]
theorem at_list (s : ByteArray) (k : Nat) (h : k < s.size) : s.data.toList[k]? = some s[k] := by
  rw [Array.getElem?_toList, Array.getElem?_eq_getElem (by simpa using h)]
  rfl
theorem len_list (s : ByteArray) : s.data.toList.length = s.size := by simp
set_option maxRecDepth 100000 in
theorem countBlank (s : ByteArray) (hm : s.size ≤ 4194304) (w : World) : Calls Tryz.prog 29 #[.string s, .func (.func 47) #[] #[]] w fun e w' => e = .returned (.int .i64 (cnt blB s.data.toList : Nat)) ∧ w = w' := by
  go_enter Tryz.func29, Tryz.ntmps29
  go_wp2
  go_loop [5] (fun i => ∃ k : Nat, k ≤ s.size ∧ i = .int .i64 k ∧ ∀ i c, i < k → s.data.toList[i]? = some c → blB c = true) (fun i => s.size - (intOf i).toNat)
  case atStart => exact ⟨0, Nat.zero_le _, rfl, fun i c h => absurd h (by omega)⟩
  case round =>
    obtain ⟨k, hk, rfl, hp⟩ := hrel
    have HP := Lib.hid hp
    clear hp
    by_cases hlt : k < s.size
    · have HX := Lib.hid (at_list s k hlt)
      have hki : (k : Int) < (s.size : Int) := by omega
      have HC := Lib.hid (fun w => isBlank_any s[k] w)
      cases hb : blB s[k]
      · have HB := Lib.hid hb
        clear hb
        go_wp2_with (go_at_call 47; refine (HC.out _).mono ?_; rintro e w' ⟨rfl, rfl⟩; rw [HB.out])
        go_ret
        exact ⟨ret_int (by rw [cnt_stop (j := k) HP.out (fun c hc => by rw [HX.out] at hc; cases hc; exact HB.out) (by rw [len_list]; omega)]), rfl⟩
      · have HB := Lib.hid hb
        clear hb
        go_wp2_with (go_at_call 47; refine (HC.out _).mono ?_; rintro e w' ⟨rfl, rfl⟩; rw [HB.out])
        go_round
        case rel =>
          refine ⟨k + 1, by omega, by go_num, fun i c hi hc => ?_⟩
          by_cases h : i < k
          · exact HP.out i c h hc
          · obtain rfl : i = k := by omega
            rw [HX.out] at hc
            cases hc
            exact HB.out
        case measure => simp [intOf]; omega
    · have hki : ¬ (k : Int) < (s.size : Int) := by omega
      obtain rfl : k = s.size := by omega
      go_wp2
      go_ret
      exact ⟨ret_int (by rw [cnt_stop (j := s.size) HP.out (fun c hc => by have := (List.getElem?_eq_some_iff.1 hc).1; rw [len_list] at this; omega) (by rw [len_list]; omega)]), rfl⟩
set_option maxRecDepth 100000 in
theorem countRem (s : ByteArray) (hm : s.size ≤ 4194304) (w : World) : Calls Tryz.prog 29 #[.string s, .func (.func 48) #[] #[]] w fun e w' => e = .returned (.int .i64 (cnt notNl s.data.toList : Nat)) ∧ w = w' := by
  go_enter Tryz.func29, Tryz.ntmps29
  go_wp2
  go_loop [5] (fun i => ∃ k : Nat, k ≤ s.size ∧ i = .int .i64 k ∧ ∀ i c, i < k → s.data.toList[i]? = some c → notNl c = true) (fun i => s.size - (intOf i).toNat)
  case atStart => exact ⟨0, Nat.zero_le _, rfl, fun i c h => absurd h (by omega)⟩
  case round =>
    obtain ⟨k, hk, rfl, hp⟩ := hrel
    have HP := Lib.hid hp
    clear hp
    by_cases hlt : k < s.size
    · have HX := Lib.hid (at_list s k hlt)
      have hki : (k : Int) < (s.size : Int) := by omega
      have HC := Lib.hid (fun w => notNl_any s[k] w)
      cases hb : notNl s[k]
      · have HB := Lib.hid hb
        clear hb
        go_wp2_with (go_at_call 48; refine (HC.out _).mono ?_; rintro e w' ⟨rfl, rfl⟩; rw [HB.out])
        go_ret
        exact ⟨ret_int (by rw [cnt_stop (j := k) HP.out (fun c hc => by rw [HX.out] at hc; cases hc; exact HB.out) (by rw [len_list]; omega)]), rfl⟩
      · have HB := Lib.hid hb
        clear hb
        go_wp2_with (go_at_call 48; refine (HC.out _).mono ?_; rintro e w' ⟨rfl, rfl⟩; rw [HB.out])
        go_round
        case rel =>
          refine ⟨k + 1, by omega, by go_num, fun i c hi hc => ?_⟩
          by_cases h : i < k
          · exact HP.out i c h hc
          · obtain rfl : i = k := by omega
            rw [HX.out] at hc
            cases hc
            exact HB.out
        case measure => simp [intOf]; omega
    · have hki : ¬ (k : Int) < (s.size : Int) := by omega
      obtain rfl : k = s.size := by omega
      go_wp2
      go_ret
      exact ⟨ret_int (by rw [cnt_stop (j := s.size) HP.out (fun c hc => by have := (List.getElem?_eq_some_iff.1 hc).1; rw [len_list] at this; omega) (by rw [len_list]; omega)]), rfl⟩
set_option maxRecDepth 100000 in
theorem countName (s : ByteArray) (hm : s.size ≤ 4194304) (w : World) : Calls Tryz.prog 29 #[.string s, .func (.func 30) #[] #[]] w fun e w' => e = .returned (.int .i64 (cnt nmB s.data.toList : Nat)) ∧ w = w' := by
  go_enter Tryz.func29, Tryz.ntmps29
  go_wp2
  go_loop [5] (fun i => ∃ k : Nat, k ≤ s.size ∧ i = .int .i64 k ∧ ∀ i c, i < k → s.data.toList[i]? = some c → nmB c = true) (fun i => s.size - (intOf i).toNat)
  case atStart => exact ⟨0, Nat.zero_le _, rfl, fun i c h => absurd h (by omega)⟩
  case round =>
    obtain ⟨k, hk, rfl, hp⟩ := hrel
    have HP := Lib.hid hp
    clear hp
    by_cases hlt : k < s.size
    · have HX := Lib.hid (at_list s k hlt)
      have hki : (k : Int) < (s.size : Int) := by omega
      have HC := Lib.hid (fun w => isNameByte_any s[k] w)
      cases hb : nmB s[k]
      · have HB := Lib.hid hb
        clear hb
        go_wp2_with (go_at_call 30; refine (HC.out _).mono ?_; rintro e w' ⟨rfl, rfl⟩; rw [HB.out])
        go_ret
        exact ⟨ret_int (by rw [cnt_stop (j := k) HP.out (fun c hc => by rw [HX.out] at hc; cases hc; exact HB.out) (by rw [len_list]; omega)]), rfl⟩
      · have HB := Lib.hid hb
        clear hb
        go_wp2_with (go_at_call 30; refine (HC.out _).mono ?_; rintro e w' ⟨rfl, rfl⟩; rw [HB.out])
        go_round
        case rel =>
          refine ⟨k + 1, by omega, by go_num, fun i c hi hc => ?_⟩
          by_cases h : i < k
          · exact HP.out i c h hc
          · obtain rfl : i = k := by omega
            rw [HX.out] at hc
            cases hc
            exact HB.out
        case measure => simp [intOf]; omega
    · have hki : ¬ (k : Int) < (s.size : Int) := by omega
      obtain rfl : k = s.size := by omega
      go_wp2
      go_ret
      exact ⟨ret_int (by rw [cnt_stop (j := s.size) HP.out (fun c hc => by have := (List.getElem?_eq_some_iff.1 hc).1; rw [len_list] at this; omega) (by rw [len_list]; omega)]), rfl⟩
set_option maxRecDepth 100000 in
theorem countDigit (s : ByteArray) (hm : s.size ≤ 4194304) (w : World) : Calls Tryz.prog 29 #[.string s, .func (.func 35) #[] #[]] w fun e w' => e = .returned (.int .i64 (cnt dgB s.data.toList : Nat)) ∧ w = w' := by
  go_enter Tryz.func29, Tryz.ntmps29
  go_wp2
  go_loop [5] (fun i => ∃ k : Nat, k ≤ s.size ∧ i = .int .i64 k ∧ ∀ i c, i < k → s.data.toList[i]? = some c → dgB c = true) (fun i => s.size - (intOf i).toNat)
  case atStart => exact ⟨0, Nat.zero_le _, rfl, fun i c h => absurd h (by omega)⟩
  case round =>
    obtain ⟨k, hk, rfl, hp⟩ := hrel
    have HP := Lib.hid hp
    clear hp
    by_cases hlt : k < s.size
    · have HX := Lib.hid (at_list s k hlt)
      have hki : (k : Int) < (s.size : Int) := by omega
      have HC := Lib.hid (fun w => lexDigit_any s[k] w)
      cases hb : dgB s[k]
      · have HB := Lib.hid hb
        clear hb
        go_wp2_with (go_at_call 35; refine (HC.out _).mono ?_; rintro e w' ⟨rfl, rfl⟩; rw [HB.out])
        go_ret
        exact ⟨ret_int (by rw [cnt_stop (j := k) HP.out (fun c hc => by rw [HX.out] at hc; cases hc; exact HB.out) (by rw [len_list]; omega)]), rfl⟩
      · have HB := Lib.hid hb
        clear hb
        go_wp2_with (go_at_call 35; refine (HC.out _).mono ?_; rintro e w' ⟨rfl, rfl⟩; rw [HB.out])
        go_round
        case rel =>
          refine ⟨k + 1, by omega, by go_num, fun i c hi hc => ?_⟩
          by_cases h : i < k
          · exact HP.out i c h hc
          · obtain rfl : i = k := by omega
            rw [HX.out] at hc
            cases hc
            exact HB.out
        case measure => simp [intOf]; omega
    · have hki : ¬ (k : Int) < (s.size : Int) := by omega
      obtain rfl : k = s.size := by omega
      go_wp2
      go_ret
      exact ⟨ret_int (by rw [cnt_stop (j := s.size) HP.out (fun c hc => by have := (List.getElem?_eq_some_iff.1 hc).1; rw [len_list] at this; omega) (by rw [len_list]; omega)]), rfl⟩
set_option maxRecDepth 100000 in
theorem countVar (s : ByteArray) (hm : s.size ≤ 4194304) (w : World) : Calls Tryz.prog 29 #[.string s, .func (.func 54) #[] #[]] w fun e w' => e = .returned (.int .i64 (cnt vrB s.data.toList : Nat)) ∧ w = w' := by
  go_enter Tryz.func29, Tryz.ntmps29
  go_wp2
  go_loop [5] (fun i => ∃ k : Nat, k ≤ s.size ∧ i = .int .i64 k ∧ ∀ i c, i < k → s.data.toList[i]? = some c → vrB c = true) (fun i => s.size - (intOf i).toNat)
  case atStart => exact ⟨0, Nat.zero_le _, rfl, fun i c h => absurd h (by omega)⟩
  case round =>
    obtain ⟨k, hk, rfl, hp⟩ := hrel
    have HP := Lib.hid hp
    clear hp
    by_cases hlt : k < s.size
    · have HX := Lib.hid (at_list s k hlt)
      have hki : (k : Int) < (s.size : Int) := by omega
      have HC := Lib.hid (fun w => varByte_any s[k] w)
      cases hb : vrB s[k]
      · have HB := Lib.hid hb
        clear hb
        go_wp2_with (go_at_call 54; refine (HC.out _).mono ?_; rintro e w' ⟨rfl, rfl⟩; rw [HB.out])
        go_ret
        exact ⟨ret_int (by rw [cnt_stop (j := k) HP.out (fun c hc => by rw [HX.out] at hc; cases hc; exact HB.out) (by rw [len_list]; omega)]), rfl⟩
      · have HB := Lib.hid hb
        clear hb
        go_wp2_with (go_at_call 54; refine (HC.out _).mono ?_; rintro e w' ⟨rfl, rfl⟩; rw [HB.out])
        go_round
        case rel =>
          refine ⟨k + 1, by omega, by go_num, fun i c hi hc => ?_⟩
          by_cases h : i < k
          · exact HP.out i c h hc
          · obtain rfl : i = k := by omega
            rw [HX.out] at hc
            cases hc
            exact HB.out
        case measure => simp [intOf]; omega
    · have hki : ¬ (k : Int) < (s.size : Int) := by omega
      obtain rfl : k = s.size := by omega
      go_wp2
      go_ret
      exact ⟨ret_int (by rw [cnt_stop (j := s.size) HP.out (fun c hc => by have := (List.getElem?_eq_some_iff.1 hc).1; rw [len_list] at this; omega) (by rw [len_list]; omega)]), rfl⟩
end Go.Proofs.YtpedmkdpbdhenaaGreatDoor
