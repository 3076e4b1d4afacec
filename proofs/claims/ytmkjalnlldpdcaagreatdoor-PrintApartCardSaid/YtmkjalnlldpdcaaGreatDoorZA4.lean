/- Texts in a row: La Lb P0 Lc. -/
import Derived.Test.YtmkjalnlldpdcaaGreatDoorZA3
import Derived.Deep.DeepCutAuto
import Derived.Outline
import Derived.Test.YtmkjalnlldpdcaaGreatDoorZA1
/- What bytes are: letters, digits, blanks; runs of them. -/
namespace Go.Proofs.YtmkjalnlldpdcaaGreatDoor
open Go.RowKit
set_option linter.unusedSimpArgs false
set_option linter.unusedVariables false
def smB (c : UInt8) : Bool := decide (97 ≤ c.toNat) && decide (c.toNat ≤ 122)
theorem isSmall_any (c : UInt8) (w : World) : Calls Tryz.prog 218 #[.int .u8 (c.toNat : Nat)] w fun e w' => e = .returned (.bool (smB c)) ∧ w = w' := by
  have hc : c.toNat < 256 := c.toNat_lt
  have hp : smB c = (decide (97 ≤ c.toNat) && decide (c.toNat ≤ 122)) := rfl
  rw [hp]
  clear hp
  generalize c.toNat = n at *
  by_cases h1 : 97 ≤ n
  · have d1 : decide ((97 : Int) ≤ (n : Int)) = true := by simp; omega
    have e1 : decide (97 ≤ n) = true := by simpa using h1
    by_cases h2 : n ≤ 122
    · have d2 : decide ((n : Int) ≤ 122) = true := by simp; omega
      have e2 : decide (n ≤ 122) = true := by simpa using h2
      rw [e1, e2]
      clear e1 e2
      go_enter Tryz.func218, Tryz.ntmps218
      go_wp2
      go_ret
      exact ⟨rfl, rfl⟩
    · have d2 : decide ((n : Int) ≤ 122) = false := by simp; omega
      have e2 : decide (n ≤ 122) = false := by simpa using h2
      rw [e1, e2]
      clear e1 e2
      go_enter Tryz.func218, Tryz.ntmps218
      go_wp2
      go_ret
      exact ⟨rfl, rfl⟩
  · have d1 : decide ((97 : Int) ≤ (n : Int)) = false := by simp; omega
    have e1 : decide (97 ≤ n) = false := by simpa using h1
    rw [e1, Bool.false_and]
    clear e1
    go_enter Tryz.func218, Tryz.ntmps218
    go_wp2
    go_ret
    exact ⟨rfl, rfl⟩
def grB (c : UInt8) : Bool := decide (65 ≤ c.toNat) && decide (c.toNat ≤ 90)
theorem isGreat_any (c : UInt8) (w : World) : Calls Tryz.prog 221 #[.int .u8 (c.toNat : Nat)] w fun e w' => e = .returned (.bool (grB c)) ∧ w = w' := by
  have hc : c.toNat < 256 := c.toNat_lt
  have hp : grB c = (decide (65 ≤ c.toNat) && decide (c.toNat ≤ 90)) := rfl
  rw [hp]
  clear hp
  generalize c.toNat = n at *
  by_cases h1 : 65 ≤ n
  · have d1 : decide ((65 : Int) ≤ (n : Int)) = true := by simp; omega
    have e1 : decide (65 ≤ n) = true := by simpa using h1
    by_cases h2 : n ≤ 90
    · have d2 : decide ((n : Int) ≤ 90) = true := by simp; omega
      have e2 : decide (n ≤ 90) = true := by simpa using h2
      rw [e1, e2]
      clear e1 e2
      go_enter Tryz.func221, Tryz.ntmps221
      go_wp2
      go_ret
      exact ⟨rfl, rfl⟩
    · have d2 : decide ((n : Int) ≤ 90) = false := by simp; omega
      have e2 : decide (n ≤ 90) = false := by simpa using h2
      rw [e1, e2]
      clear e1 e2
      go_enter Tryz.func221, Tryz.ntmps221
      go_wp2
      go_ret
      exact ⟨rfl, rfl⟩
  · have d1 : decide ((65 : Int) ≤ (n : Int)) = false := by simp; omega
    have e1 : decide (65 ≤ n) = false := by simpa using h1
    rw [e1, Bool.false_and]
    clear e1
    go_enter Tryz.func221, Tryz.ntmps221
    go_wp2
    go_ret
    exact ⟨rfl, rfl⟩
def dgB (c : UInt8) : Bool := decide (48 ≤ c.toNat) && decide (c.toNat ≤ 57)
theorem lexDigit_any (c : UInt8) (w : World) : Calls Tryz.prog 224 #[.int .u8 (c.toNat : Nat)] w fun e w' => e = .returned (.bool (dgB c)) ∧ w = w' := by
  have hc : c.toNat < 256 := c.toNat_lt
  have hp : dgB c = (decide (48 ≤ c.toNat) && decide (c.toNat ≤ 57)) := rfl
  rw [hp]
  clear hp
  generalize c.toNat = n at *
  by_cases h1 : 48 ≤ n
  · have d1 : decide ((48 : Int) ≤ (n : Int)) = true := by simp; omega
    have e1 : decide (48 ≤ n) = true := by simpa using h1
    by_cases h2 : n ≤ 57
    · have d2 : decide ((n : Int) ≤ 57) = true := by simp; omega
      have e2 : decide (n ≤ 57) = true := by simpa using h2
      rw [e1, e2]
      clear e1 e2
      go_enter Tryz.func224, Tryz.ntmps224
      go_wp2
      go_ret
      exact ⟨rfl, rfl⟩
    · have d2 : decide ((n : Int) ≤ 57) = false := by simp; omega
      have e2 : decide (n ≤ 57) = false := by simpa using h2
      rw [e1, e2]
      clear e1 e2
      go_enter Tryz.func224, Tryz.ntmps224
      go_wp2
      go_ret
      exact ⟨rfl, rfl⟩
  · have d1 : decide ((48 : Int) ≤ (n : Int)) = false := by simp; omega
    have e1 : decide (48 ≤ n) = false := by simpa using h1
    rw [e1, Bool.false_and]
    clear e1
    go_enter Tryz.func224, Tryz.ntmps224
    go_wp2
    go_ret
    exact ⟨rfl, rfl⟩
def blB (c : UInt8) : Bool := decide (c.toNat = 32) || decide (c.toNat = 9) || decide (c.toNat = 10)
def notNl (c : UInt8) : Bool := !decide (c.toNat = 10)
def nmB (c : UInt8) : Bool := smB c || grB c || dgB c || decide (c.toNat = 95) || decide (c.toNat = 39)
set_option maxHeartbeats 1000000 in
theorem isNameByte_any (c : UInt8) (w : World) : Calls Tryz.prog 219 #[.int .u8 (c.toNat : Nat)] w fun e w' => e = .returned (.bool (nmB c)) ∧ w = w' := by
  have hp : nmB c = (smB c || grB c || dgB c || decide (c.toNat = 95) || decide (c.toNat = 39)) := rfl
  rw [hp]
  clear hp
  have H1 := Lib.hid (isSmall_any c w)
  have H2 := Lib.hid (isGreat_any c w)
  have H3 := Lib.hid (lexDigit_any c w)
  generalize smB c = b1 at *
  generalize grB c = b2 at *
  generalize dgB c = b3 at *
  generalize c.toNat = n at *
  have hd : (decide (n = 95) = true ∧ ((n : Int) == 95) = true) ∨ (decide (n = 95) = false ∧ ((n : Int) == 95) = false) := by
    by_cases h : n = 95
    · exact .inl ⟨by simpa using h, by subst h; rfl⟩
    · exact .inr ⟨by simpa using h, by rw [beq_eq_false_iff_ne]; omega⟩
  have hf : (decide (n = 39) = true ∧ ((n : Int) == 39) = true) ∨ (decide (n = 39) = false ∧ ((n : Int) == 39) = false) := by
    by_cases h : n = 39
    · exact .inl ⟨by simpa using h, by subst h; rfl⟩
    · exact .inr ⟨by simpa using h, by rw [beq_eq_false_iff_ne]; omega⟩
  rcases hd with ⟨e1, d1⟩ | ⟨e1, d1⟩ <;> rcases hf with ⟨e2, d2⟩ | ⟨e2, d2⟩ <;> rw [e1, e2] <;> clear e1 e2 <;> cases b1 <;> cases b2 <;> cases b3
  all_goals
    go_enter Tryz.func219, Tryz.ntmps219
    go_wp2_with (first
      | (go_at_call 218; refine H1.out.mono ?_; rintro e w1 ⟨rfl, rfl⟩)
      | (go_at_call 221; refine H2.out.mono ?_; rintro e w1 ⟨rfl, rfl⟩)
      | (go_at_call 224; refine H3.out.mono ?_; rintro e w1 ⟨rfl, rfl⟩))
    go_ret
    first | exact ⟨rfl, rfl⟩ | exact ⟨congrArg (fun b => Ending.returned (.bool b)) d2, rfl⟩
def vrB (c : UInt8) : Bool := nmB c && !decide (c.toNat = 39)
theorem varByte_any (c : UInt8) (w : World) : Calls Tryz.prog 251 #[.int .u8 (c.toNat : Nat)] w fun e w' => e = .returned (.bool (vrB c)) ∧ w = w' := by
  have hp : vrB c = (nmB c && !decide (c.toNat = 39)) := rfl
  rw [hp]
  clear hp
  have H1 := Lib.hid (isNameByte_any c w)
  generalize nmB c = b1 at *
  generalize c.toNat = n at *
  have hf : (decide (n = 39) = true ∧ ((n : Int) != 39) = false) ∨ (decide (n = 39) = false ∧ ((n : Int) != 39) = true) := by
    by_cases h : n = 39
    · exact .inl ⟨by simpa using h, by subst h; rfl⟩
    · exact .inr ⟨by simpa using h, by simp; omega⟩
  rcases hf with ⟨e2, d2⟩ | ⟨e2, d2⟩ <;> rw [e2] <;> clear e2 <;> cases b1
  all_goals
    go_enter Tryz.func251, Tryz.ntmps251
    go_wp2_with (go_at_call 219; refine H1.out.mono ?_; rintro e w1 ⟨rfl, rfl⟩)
    go_ret
    first | exact ⟨rfl, rfl⟩ | exact ⟨congrArg (fun b => Ending.returned (.bool b)) d2, rfl⟩
/-- How many bytes a run has. -/
def cnt (p : UInt8 → Bool) (l : List UInt8) : Nat := (l.takeWhile p).length
theorem cnt_le (p : UInt8 → Bool) (l : List UInt8) : cnt p l ≤ l.length := by
  unfold cnt
  induction l with
  | nil => simp
  | cons c l ih => rw [List.takeWhile_cons]; split <;> simp <;> omega
theorem cnt_stop {p : UInt8 → Bool} : ∀ {l : List UInt8} {j : Nat}, (∀ i c, i < j → l[i]? = some c → p c = true) → (∀ c, l[j]? = some c → p c = false) → j ≤ l.length → cnt p l = j := by
  intro l
  unfold cnt
  induction l with
  | nil => intro j _ _ h; simp at h; simp [h]
  | cons c l ih =>
    intro j h1 h2 h3
    cases j with
    | zero => rw [List.takeWhile_cons, h2 c rfl]; simp
    | succ j =>
      rw [List.takeWhile_cons, h1 0 c (by omega) rfl]
      simp only [if_true, List.length_cons]
      rw [ih (j := j) (fun i c' hi hc => h1 (i + 1) c' (by omega) hc) (fun c' hc => h2 c' hc) (by simpa using h3)]
theorem at_list (s : ByteArray) (k : Nat) (h : k < s.size) : s.data.toList[k]? = some s[k] := by
  rw [Array.getElem?_toList, Array.getElem?_eq_getElem (by simpa using h)]
  rfl
theorem len_list (s : ByteArray) : s.data.toList.length = s.size := by simp
set_option maxRecDepth 100000 in
theorem countName (s : ByteArray) (hm : s.size ≤ 4194304) (w : World) : Calls Tryz.prog 214 #[.string s, .func (.func 219) #[] #[]] w fun e w' => e = .returned (.int .i64 (cnt nmB s.data.toList : Nat)) ∧ w = w' := by
  go_enter Tryz.func214, Tryz.ntmps214
  go_wp2
  go_loop [5] (fun i => ∃ k : Nat, k ≤ s.size ∧ i = .int .i64 k ∧ ∀ i c, i < k → s.data.toList[i]? = some c → nmB c = true) (fun i => s.size - (intOf i).toNat)
  case atStart => exact ⟨0, Nat.zero_le _, rfl, fun i c h => absurd h (by omega)⟩
  case round =>
    obtain ⟨k, hk, rfl, hp⟩ := hrel
    have HP := Lib.hid hp
    clear hp
    by_cases hlt : k < s.size
    · have HX := Lib.hid (at_list s k hlt)
      have hki : (k : Int) < (s.size : Int) := by omega
      have HC := Lib.hid (fun w => isNameByte_any s[k] w)
      cases hb : nmB s[k]
      · have HB := Lib.hid hb
        clear hb
        go_wp2_with (go_at_call 219; refine (HC.out _).mono ?_; rintro e w' ⟨rfl, rfl⟩; rw [HB.out])
        go_ret
        exact ⟨ret_int (by rw [cnt_stop (j := k) HP.out (fun c hc => by rw [HX.out] at hc; cases hc; exact HB.out) (by rw [len_list]; omega)]), rfl⟩
      · have HB := Lib.hid hb
        clear hb
        go_wp2_with (go_at_call 219; refine (HC.out _).mono ?_; rintro e w' ⟨rfl, rfl⟩; rw [HB.out])
        go_round
        case rel =>
          refine ⟨k + 1, by omega, by go_num, fun i c hi hc => ?_⟩
          by_cases h : i < k
          · exact HP.out i c h hc
          · obtain rfl : i = k := by omega
            rw [HX.out] at hc
            cases hc
            exact HB.out
        case measure => simp [intOf]; omega
    · have hki : ¬ (k : Int) < (s.size : Int) := by omega
      obtain rfl : k = s.size := by omega
      go_wp2
      go_ret
      exact ⟨ret_int (by rw [cnt_stop (j := s.size) HP.out (fun c hc => by have := (List.getElem?_eq_some_iff.1 hc).1; rw [len_list] at this; omega) (by rw [len_list]; omega)]), rfl⟩
set_option maxRecDepth 100000 in
theorem countDigit (s : ByteArray) (hm : s.size ≤ 4194304) (w : World) : Calls Tryz.prog 214 #[.string s, .func (.func 224) #[] #[]] w fun e w' => e = .returned (.int .i64 (cnt dgB s.data.toList : Nat)) ∧ w = w' := by
  go_enter Tryz.func214, Tryz.ntmps214
  go_wp2
  go_loop [5] (fun i => ∃ k : Nat, k ≤ s.size ∧ i = .int .i64 k ∧ ∀ i c, i < k → s.data.toList[i]? = some c → dgB c = true) (fun i => s.size - (intOf i).toNat)
  case atStart => exact ⟨0, Nat.zero_le _, rfl, fun i c h => absurd h (by omega)⟩
  case round =>
    obtain ⟨k, hk, rfl, hp⟩ := hrel
    have HP := Lib.hid hp
    clear hp
    by_cases hlt : k < s.size
    · have HX := Lib.hid (at_list s k hlt)
      have hki : (k : Int) < (s.size : Int) := by omega
      have HC := Lib.hid (fun w => lexDigit_any s[k] w)
      cases hb : dgB s[k]
      · have HB := Lib.hid hb
        clear hb
        go_wp2_with (go_at_call 224; refine (HC.out _).mono ?_; rintro e w' ⟨rfl, rfl⟩; rw [HB.out])
        go_ret
        exact ⟨ret_int (by rw [cnt_stop (j := k) HP.out (fun c hc => by rw [HX.out] at hc; cases hc; exact HB.out) (by rw [len_list]; omega)]), rfl⟩
      · have HB := Lib.hid hb
        clear hb
        go_wp2_with (go_at_call 224; refine (HC.out _).mono ?_; rintro e w' ⟨rfl, rfl⟩; rw [HB.out])
        go_round
        case rel =>
          refine ⟨k + 1, by omega, by go_num, fun i c hi hc => ?_⟩
          by_cases h : i < k
          · exact HP.out i c h hc
          · obtain rfl : i = k := by omega
            rw [HX.out] at hc
            cases hc
            exact HB.out
        case measure => simp [intOf]; omega
    · have hki : ¬ (k : Int) < (s.size : Int) := by omega
      obtain rfl : k = s.size := by omega
      go_wp2
      go_ret
      exact ⟨ret_int (by rw [cnt_stop (j := s.size) HP.out (fun c hc => by have := (List.getElem?_eq_some_iff.1 hc).1; rw [len_list] at this; omega) (by rw [len_list]; omega)]), rfl⟩
set_option maxRecDepth 100000 in
theorem countVar (s : ByteArray) (hm : s.size ≤ 4194304) (w : World) : Calls Tryz.prog 214 #[.string s, .func (.func 251) #[] #[]] w fun e w' => e = .returned (.int .i64 (cnt vrB s.data.toList : Nat)) ∧ w = w' := by
  go_enter Tryz.func214, Tryz.ntmps214
  go_wp2
  go_loop [5] (fun i => ∃ k : Nat, k ≤ s.size ∧ i = .int .i64 k ∧ ∀ i c, i < k → s.data.toList[i]? = some c → vrB c = true) (fun i => s.size - (intOf i).toNat)
  case atStart => exact ⟨0, Nat.zero_le _, rfl, fun i c h => absurd h (by omega)⟩
  case round =>
    obtain ⟨k, hk, rfl, hp⟩ := hrel
    have HP := Lib.hid hp
    clear hp
    by_cases hlt : k < s.size
    · have HX := Lib.hid (at_list s k hlt)
      have hki : (k : Int) < (s.size : Int) := by omega
      have HC := Lib.hid (fun w => varByte_any s[k] w)
      cases hb : vrB s[k]
      · have HB := Lib.hid hb
        clear hb
        go_wp2_with (go_at_call 251; refine (HC.out _).mono ?_; rintro e w' ⟨rfl, rfl⟩; rw [HB.out])
        go_ret
        exact ⟨ret_int (by rw [cnt_stop (j := k) HP.out (fun c hc => by rw [HX.out] at hc; cases hc; exact HB.out) (by rw [len_list]; omega)]), rfl⟩
      · have HB := Lib.hid hb
        clear hb
        go_wp2_with (go_at_call 251; refine (HC.out _).mono ?_; rintro e w' ⟨rfl, rfl⟩; rw [HB.out])
        go_round
        case rel =>
          refine ⟨k + 1, by omega, by go_num, fun i c hi hc => ?_⟩
          by_cases h : i < k
          · exact HP.out i c h hc
          · obtain rfl : i = k := by omega
            rw [HX.out] at hc
            cases hc
            exact HB.out
        case measure => simp [intOf]; omega
    · have hki : ¬ (k : Int) < (s.size : Int) := by omega
      obtain rfl : k = s.size := by omega
      go_wp2
      go_ret
      exact ⟨ret_int (by rw [cnt_stop (j := s.size) HP.out (fun c hc => by have := (List.getElem?_eq_some_iff.1 hc).1; rw [len_list] at this; omega) (by rw [len_list]; omega)]), rfl⟩
end Go.Proofs.YtmkjalnlldpdcaaGreatDoor
/- Blanks and remarks, skipped. -/
namespace Go.Proofs.YtmkjalnlldpdcaaGreatDoor
open Go.RowKit
set_option linter.unusedSimpArgs false
set_option linter.unusedVariables false
theorem sfx_list (s : ByteArray) (k : Nat) : (s.extract k s.size).data.toList = s.data.toList.drop k := by
  rw [ByteArray.data_extract, Array.toList_extract]
  simp only [List.extract_eq_take_drop]
  rw [List.take_of_length_le (by rw [List.length_drop, len_list]; omega)]
theorem sfx_size (s : ByteArray) (k : Nat) : (s.extract k s.size).size = s.size - k := by
  simp [ByteArray.size_extract]
/-- How many bytes the next run of blanks, or the next remark, has. -/
def sn (l : List UInt8) : Nat := if Lib.hasPrefix l [45, 45] then cnt notNl l else cnt blB l
theorem sn_le (l : List UInt8) : sn l ≤ l.length := by
  unfold sn
  split <;> exact cnt_le _ _
def skF : Nat → List UInt8 → Nat
  | 0, _ => 0
  | f + 1, l => if sn l = 0 then 0 else sn l + skF f (l.drop (sn l))
/-- How many bytes blanks and remarks have at the beginning. -/
def skM (l : List UInt8) : Nat := skF (l.length + 1) l
theorem skF_any : ∀ (f g : Nat) (l : List UInt8), l.length < f → l.length < g → skF f l = skF g l := by
  intro f
  induction f with
  | zero => intro g l h; omega
  | succ f ih =>
    intro g l h1 h2
    cases g with
    | zero => omega
    | succ g =>
      unfold skF
      by_cases h : sn l = 0
      · rw [if_pos h, if_pos h]
      · rw [if_neg h, if_neg h]
        have := sn_le l
        rw [ih g (l.drop (sn l)) (by rw [List.length_drop]; omega) (by rw [List.length_drop]; omega)]
theorem skM_zero {l : List UInt8} (h : sn l = 0) : skM l = 0 := by
  unfold skM skF
  rw [if_pos h]
theorem skM_step {l : List UInt8} (h : sn l ≠ 0) : skM l = sn l + skM (l.drop (sn l)) := by
  have hl := sn_le l
  unfold skM
  rw [skF, if_neg h]
  rw [skF_any l.length ((l.drop (sn l)).length + 1) _ (by rw [List.length_drop]; omega) (by omega)]
theorem skM_le : ∀ (n : Nat) (l : List UInt8), l.length = n → skM l ≤ l.length := by
  intro n
  induction n using Nat.strongRecOn with
  | ind n ih =>
    intro l hn
    by_cases h : sn l = 0
    · rw [skM_zero h]; omega
    · have hl := sn_le l
      rw [skM_step h]
      have := ih (l.drop (sn l)).length (by rw [List.length_drop]; omega) _ rfl
      rw [List.length_drop] at this
      omega
end Go.Proofs.YtmkjalnlldpdcaaGreatDoor
/- A token. -/
namespace Go.Proofs.YtmkjalnlldpdcaaGreatDoor
/-- A token, but for its place. -/
structure Tk where
  k : Int
  s : ByteArray
  n : Int
def Tk.v (t : Tk) (a : Int) : Value := .agg #[.int .i64 t.k, .string t.s, .int .i64 t.n, .int .i64 a]
def tk0 : Tk := ⟨0, ⟨#[]⟩, 0⟩
end Go.Proofs.YtmkjalnlldpdcaaGreatDoor
/- Keywords; names as tokens. -/
namespace Go.Proofs.YtmkjalnlldpdcaaGreatDoor
open Go.RowKit
set_option linter.unusedSimpArgs false
set_option linter.unusedVariables false
theorem toList_injX {a b : ByteArray} (h : a.toList = b.toList) : a = b := by
  rw [ByteArray.toList_eq, ByteArray.toList_eq] at h
  cases a; cases b
  simpa using h
def keyB (s : ByteArray) : Bool := decide (s = ⟨#[105, 109, 112, 111, 114, 116]⟩) || decide (s = ⟨#[116, 121, 112, 101]⟩) || decide (s = ⟨#[97, 108, 105, 97, 115]⟩) || decide (s = ⟨#[108, 101, 116]⟩) || decide (s = ⟨#[114, 101, 99]⟩) || decide (s = ⟨#[105, 110]⟩) || decide (s = ⟨#[102, 117, 110]⟩) || decide (s = ⟨#[109, 97, 116, 99, 104]⟩) || decide (s = ⟨#[119, 105, 116, 104]⟩) || decide (s = ⟨#[101, 110, 100]⟩) || decide (s = ⟨#[101, 120, 112, 111, 114, 116]⟩)
set_option maxHeartbeats 1000000 in
theorem keyword_any (s : ByteArray) (w : World) : Calls Tryz.prog 112 #[.string s] w fun e w' => e = .returned (.bool (keyB s)) ∧ w = w' := by
  by_cases h0 : s = ⟨#[105, 109, 112, 111, 114, 116]⟩
  · subst h0
    have e : keyB ⟨#[105, 109, 112, 111, 114, 116]⟩ = true := by decide
    rw [e]
    go_enter Tryz.func112, Tryz.ntmps112
    go_wp2
    go_ret
    exact ⟨rfl, rfl⟩
  have d0 : (s.toList == [105, 109, 112, 111, 114, 116]) = false := by rw [beq_eq_false_iff_ne]; exact fun h => h0 (toList_injX (b := ⟨#[105, 109, 112, 111, 114, 116]⟩) (by rw [h, ByteArray.toList_eq]))
  by_cases h1 : s = ⟨#[116, 121, 112, 101]⟩
  · subst h1
    have e : keyB ⟨#[116, 121, 112, 101]⟩ = true := by decide
    rw [e]
    go_enter Tryz.func112, Tryz.ntmps112
    go_wp2
    go_ret
    exact ⟨rfl, rfl⟩
  have d1 : (s.toList == [116, 121, 112, 101]) = false := by rw [beq_eq_false_iff_ne]; exact fun h => h1 (toList_injX (b := ⟨#[116, 121, 112, 101]⟩) (by rw [h, ByteArray.toList_eq]))
  by_cases h2 : s = ⟨#[97, 108, 105, 97, 115]⟩
  · subst h2
    have e : keyB ⟨#[97, 108, 105, 97, 115]⟩ = true := by decide
    rw [e]
    go_enter Tryz.func112, Tryz.ntmps112
    go_wp2
    go_ret
    exact ⟨rfl, rfl⟩
  have d2 : (s.toList == [97, 108, 105, 97, 115]) = false := by rw [beq_eq_false_iff_ne]; exact fun h => h2 (toList_injX (b := ⟨#[97, 108, 105, 97, 115]⟩) (by rw [h, ByteArray.toList_eq]))
  by_cases h3 : s = ⟨#[108, 101, 116]⟩
  · subst h3
    have e : keyB ⟨#[108, 101, 116]⟩ = true := by decide
    rw [e]
    go_enter Tryz.func112, Tryz.ntmps112
    go_wp2
    go_ret
    exact ⟨rfl, rfl⟩
  have d3 : (s.toList == [108, 101, 116]) = false := by rw [beq_eq_false_iff_ne]; exact fun h => h3 (toList_injX (b := ⟨#[108, 101, 116]⟩) (by rw [h, ByteArray.toList_eq]))
  by_cases h4 : s = ⟨#[114, 101, 99]⟩
  · subst h4
    have e : keyB ⟨#[114, 101, 99]⟩ = true := by decide
    rw [e]
    go_enter Tryz.func112, Tryz.ntmps112
    go_wp2
    go_ret
    exact ⟨rfl, rfl⟩
  have d4 : (s.toList == [114, 101, 99]) = false := by rw [beq_eq_false_iff_ne]; exact fun h => h4 (toList_injX (b := ⟨#[114, 101, 99]⟩) (by rw [h, ByteArray.toList_eq]))
  by_cases h5 : s = ⟨#[105, 110]⟩
  · subst h5
    have e : keyB ⟨#[105, 110]⟩ = true := by decide
    rw [e]
    go_enter Tryz.func112, Tryz.ntmps112
    go_wp2
    go_ret
    exact ⟨rfl, rfl⟩
  have d5 : (s.toList == [105, 110]) = false := by rw [beq_eq_false_iff_ne]; exact fun h => h5 (toList_injX (b := ⟨#[105, 110]⟩) (by rw [h, ByteArray.toList_eq]))
  by_cases h6 : s = ⟨#[102, 117, 110]⟩
  · subst h6
    have e : keyB ⟨#[102, 117, 110]⟩ = true := by decide
    rw [e]
    go_enter Tryz.func112, Tryz.ntmps112
    go_wp2
    go_ret
    exact ⟨rfl, rfl⟩
  have d6 : (s.toList == [102, 117, 110]) = false := by rw [beq_eq_false_iff_ne]; exact fun h => h6 (toList_injX (b := ⟨#[102, 117, 110]⟩) (by rw [h, ByteArray.toList_eq]))
  by_cases h7 : s = ⟨#[109, 97, 116, 99, 104]⟩
  · subst h7
    have e : keyB ⟨#[109, 97, 116, 99, 104]⟩ = true := by decide
    rw [e]
    go_enter Tryz.func112, Tryz.ntmps112
    go_wp2
    go_ret
    exact ⟨rfl, rfl⟩
  have d7 : (s.toList == [109, 97, 116, 99, 104]) = false := by rw [beq_eq_false_iff_ne]; exact fun h => h7 (toList_injX (b := ⟨#[109, 97, 116, 99, 104]⟩) (by rw [h, ByteArray.toList_eq]))
  by_cases h8 : s = ⟨#[119, 105, 116, 104]⟩
  · subst h8
    have e : keyB ⟨#[119, 105, 116, 104]⟩ = true := by decide
    rw [e]
    go_enter Tryz.func112, Tryz.ntmps112
    go_wp2
    go_ret
    exact ⟨rfl, rfl⟩
  have d8 : (s.toList == [119, 105, 116, 104]) = false := by rw [beq_eq_false_iff_ne]; exact fun h => h8 (toList_injX (b := ⟨#[119, 105, 116, 104]⟩) (by rw [h, ByteArray.toList_eq]))
  by_cases h9 : s = ⟨#[101, 110, 100]⟩
  · subst h9
    have e : keyB ⟨#[101, 110, 100]⟩ = true := by decide
    rw [e]
    go_enter Tryz.func112, Tryz.ntmps112
    go_wp2
    go_ret
    exact ⟨rfl, rfl⟩
  have d9 : (s.toList == [101, 110, 100]) = false := by rw [beq_eq_false_iff_ne]; exact fun h => h9 (toList_injX (b := ⟨#[101, 110, 100]⟩) (by rw [h, ByteArray.toList_eq]))
  by_cases h10 : s = ⟨#[101, 120, 112, 111, 114, 116]⟩
  · subst h10
    have e : keyB ⟨#[101, 120, 112, 111, 114, 116]⟩ = true := by decide
    rw [e]
    go_enter Tryz.func112, Tryz.ntmps112
    go_wp2
    go_ret
    exact ⟨rfl, rfl⟩
  have d10 : (s.toList == [101, 120, 112, 111, 114, 116]) = false := by rw [beq_eq_false_iff_ne]; exact fun h => h10 (toList_injX (b := ⟨#[101, 120, 112, 111, 114, 116]⟩) (by rw [h, ByteArray.toList_eq]))
  have e : keyB s = false := by
    unfold keyB
    simp only [h0, h1, h2, h3, h4, h5, h6, h7, h8, h9, h10, decide_false, Bool.or_false]
  rw [e]
  clear e h0 h1 h2 h3 h4 h5 h6 h7 h8 h9 h10
  go_enter Tryz.func112, Tryz.ntmps112
  go_wp2
  go_ret
  exact ⟨rfl, rfl⟩
theorem clone_anyX (s : ByteArray) (hs : s.size ≤ 4194304) (w : World) : Calls Tryz.prog 249 #[.string s] w fun e w' => e = .returned (.string s) ∧ Below w.heap.size w w' := by
  go_enter Tryz.func249, Tryz.ntmps249
  go_wp2_with (go_at_call 269; ((with_reducible refine (Tryz.stringslite_Clone s _ (by omega)).mono ?_); rintro e w1 ⟨rfl, hb⟩))
  go_ret
  exact ⟨rfl, hb⟩
/-- What the name at the beginning is. -/
def nameT (kind : Int) (s : ByteArray) : Tk × Nat :=
  if 30 < cnt nmB s.data.toList then (tk0, 0)
  else (⟨if keyB (s.extract 0 (cnt nmB s.data.toList)) then 7 else kind, s.extract 0 (cnt nmB s.data.toList), 0⟩, cnt nmB s.data.toList)
set_option maxHeartbeats 1000000 in
theorem firstName_anyX (s : ByteArray) (kind : Int) (hm : s.size ≤ 4194304) (w : World) :
    Calls Tryz.prog 220 #[.string s, .int .i64 kind] w fun e w' => e = .returned (.tuple #[(nameT kind s).1.v 0, .int .i64 (nameT kind s).2]) ∧ Below w.heap.size w w' := by
  have hle := cnt_le nmB s.data.toList
  rw [len_list] at hle
  obtain ⟨N, hN⟩ : ∃ N, cnt nmB s.data.toList = N := ⟨_, rfl⟩
  have HC := Lib.hid (fun W => countName s hm W)
  have he : nameT kind s = if 30 < N then (tk0, 0) else (⟨if keyB (s.extract 0 N) then 7 else kind, s.extract 0 N, 0⟩, N) := by unfold nameT; rw [hN]
  rw [he]
  rw [hN] at hle HC
  clear he hN
  by_cases h30 : 30 < N
  · rw [if_pos h30]
    have d30 : decide ((30 : Int) < (N : Int)) = true := by simp; omega
    go_enter Tryz.func220, Tryz.ntmps220
    go_wp2_with (go_at_call 214; ((with_reducible refine (HC.out _).mono ?_); rintro e w1 ⟨rfl, rfl⟩))
    have hB : Below w.heap.size w (w.alloc (.cells #[.int .i64 0, .string ⟨#[]⟩, .int .i64 0, .int .i64 0] 159)) := below_alloc w _
    have k0 := hb_new w (.cells #[.int .i64 0, .string ⟨#[]⟩, .int .i64 0, .int .i64 0] 159)
    have r0 := hb_at k0 0 rfl
    have r1 := hb_at k0 1 rfl
    have r2 := hb_at k0 2 rfl
    have r3 := hb_at k0 3 rfl
    exact bodyPost_ret (v := .tuple #[tk0.v 0, .int .i64 0]) (by simp [results, Tryz.results220, go_sem, r0, r1, r2, r3, tk0, Tk.v]) rfl ⟨rfl, by first | exact hB | exact (((hB.setCell (by simp) _).setCell (by simp) _).setCell (by simp) _).setCell (by simp) _⟩
  · rw [if_neg h30]
    have d30 : decide ((30 : Int) < (N : Int)) = false := by simp; omega
    have HK := Lib.hid (fun W => keyword_any (s.extract 0 N) W)
    have HL := Lib.hid (fun W => clone_anyX (s.extract 0 N) (by rw [ByteArray.size_extract]; omega) W)
    have hNi : (N : Int) ≤ (s.size : Int) := by omega
    cases hk : keyB (s.extract 0 N)
    · rw [hk] at HK
      clear hk
      go_enter Tryz.func220, Tryz.ntmps220
      go_wp2_with (first
        | (go_at_call 214; ((with_reducible refine (HC.out _).mono ?_); rintro e w1 ⟨rfl, rfl⟩))
        | (go_at_call 112; ((with_reducible refine (HK.out _).mono ?_); rintro e w1 ⟨rfl, rfl⟩))
        | (go_at_call 249; ((with_reducible refine (HL.out _).mono ?_); rintro e w2 ⟨rfl, hb⟩; obtain ⟨hc, hf⟩ := bcellX hb; have z2 := hb.size; rw [World.size_alloc] at z2; have y2 : w.heap.size < w2.heap.size := (by omega))))
      have hB : Below w.heap.size w w2 := (below_alloc w _).trans (hb.mono (by simp))
      have k0 := (hb_below (hb_new w (.cells #[.int .i64 0, .string ⟨#[]⟩, .int .i64 0, .int .i64 0] 159)) hb (by simp))
      have r0 := hb_at k0 0 rfl
      have r1 := hb_at k0 1 rfl
      have r2 := hb_at k0 2 rfl
      have r3 := hb_at k0 3 rfl
      exact bodyPost_ret (v := .tuple #[Tk.v ⟨kind, s.extract 0 N, 0⟩ 0, .int .i64 N]) (by simp [results, Tryz.results220, go_sem, r0, r1, r2, r3, Tk.v]) rfl ⟨rfl, (((hB.setCell (by simp) _).setCell (by simp) _).setCell (by simp) _).setCell (by simp) _⟩
    · rw [hk] at HK
      clear hk
      go_enter Tryz.func220, Tryz.ntmps220
      go_wp2_with (first
        | (go_at_call 214; ((with_reducible refine (HC.out _).mono ?_); rintro e w1 ⟨rfl, rfl⟩))
        | (go_at_call 112; ((with_reducible refine (HK.out _).mono ?_); rintro e w1 ⟨rfl, rfl⟩))
        | (go_at_call 249; ((with_reducible refine (HL.out _).mono ?_); rintro e w2 ⟨rfl, hb⟩; obtain ⟨hc, hf⟩ := bcellX hb; have z2 := hb.size; rw [World.size_alloc] at z2; have y2 : w.heap.size < w2.heap.size := (by omega))))
      have hB : Below w.heap.size w w2 := (below_alloc w _).trans (hb.mono (by simp))
      have k0 := (hb_below (hb_new w (.cells #[.int .i64 0, .string ⟨#[]⟩, .int .i64 0, .int .i64 0] 159)) hb (by simp))
      have r0 := hb_at k0 0 rfl
      have r1 := hb_at k0 1 rfl
      have r2 := hb_at k0 2 rfl
      have r3 := hb_at k0 3 rfl
      exact bodyPost_ret (v := .tuple #[Tk.v ⟨7, s.extract 0 N, 0⟩ 0, .int .i64 N]) (by simp [results, Tryz.results220, go_sem, r0, r1, r2, r3, Tk.v]) rfl ⟨rfl, (((hB.setCell (by simp) _).setCell (by simp) _).setCell (by simp) _).setCell (by simp) _⟩
end Go.Proofs.YtmkjalnlldpdcaaGreatDoor
