/- Bytes of names; runs. -/
import Derived.Test.YthcpmdgdbceeiaaGreatDoorT4
import Derived.Outline
namespace Go.Proofs.YthcpmdgdbceeiaaGreatDoor
open Go.RowKit
def smallB (c : Int) : Bool := decide (97 ≤ c ∧ c ≤ 122)
def greatB (c : Int) : Bool := decide (65 ≤ c ∧ c ≤ 90)
def digitB (c : Int) : Bool := decide (48 ≤ c ∧ c ≤ 57)
def nameB (c : Int) : Bool := smallB c || greatB c || digitB c || c == 95 || c == 39
def varB (c : Int) : Bool := nameB c && c != 39
/-- A function of one byte that answers a Bool, and does nothing else. -/
def ByteF (K : Nat) (g : Int → Bool) : Prop := ∀ (c : Int) (w : World), Calls Tryz.prog K #[.int .u8 c] w fun e w' => e = .returned (.bool (g c)) ∧ w = w'
theorem small_any : ByteF 74 smallB := by
  intro c w
  by_cases h1 : 97 ≤ c
  · by_cases h2 : c ≤ 122
    · go_enter Tryz.func74, Tryz.ntmps74
      go_wp2
      go_ret
      exact ⟨ret_bool (by simp [smallB, h1, h2]), rfl⟩
    · go_enter Tryz.func74, Tryz.ntmps74
      go_wp2
      go_ret
      exact ⟨ret_bool (by simp [smallB, h1, h2]), rfl⟩
  · go_enter Tryz.func74, Tryz.ntmps74
    go_wp2
    go_ret
    exact ⟨ret_bool (decide_eq_false (by omega)).symm, rfl⟩
theorem great_any : ByteF 78 greatB := by
  intro c w
  by_cases h1 : 65 ≤ c
  · by_cases h2 : c ≤ 90
    · go_enter Tryz.func78, Tryz.ntmps78
      go_wp2
      go_ret
      exact ⟨ret_bool (by simp [greatB, h1, h2]), rfl⟩
    · go_enter Tryz.func78, Tryz.ntmps78
      go_wp2
      go_ret
      exact ⟨ret_bool (by simp [greatB, h1, h2]), rfl⟩
  · go_enter Tryz.func78, Tryz.ntmps78
    go_wp2
    go_ret
    exact ⟨ret_bool (decide_eq_false (by omega)).symm, rfl⟩
theorem digit_any : ByteF 81 digitB := by
  intro c w
  by_cases h1 : 48 ≤ c
  · by_cases h2 : c ≤ 57
    · go_enter Tryz.func81, Tryz.ntmps81
      go_wp2
      go_ret
      exact ⟨ret_bool (by simp [digitB, h1, h2]), rfl⟩
    · go_enter Tryz.func81, Tryz.ntmps81
      go_wp2
      go_ret
      exact ⟨ret_bool (by simp [digitB, h1, h2]), rfl⟩
  · go_enter Tryz.func81, Tryz.ntmps81
    go_wp2
    go_ret
    exact ⟨ret_bool (decide_eq_false (by omega)).symm, rfl⟩
theorem ByteF.lit {K : Nat} {g : Int → Bool} (h : ByteF K g) {c : Int} {r : Bool} (hr : g c = r) (w : World) : Calls Tryz.prog K #[.int .u8 c] w fun e w' => e = .returned (.bool r) ∧ w = w' := by rw [← hr]; exact h c w
set_option maxRecDepth 100000 in
set_option maxHeartbeats 1000000 in
theorem name_any : ByteF 76 nameB := by
  intro c w
  cases hs : smallB c
  · cases hg : greatB c
    · cases hd : digitB c
      · have HS := Lib.hid (small_any.lit hs)
        have HG := Lib.hid (great_any.lit hg)
        have HD := Lib.hid (digit_any.lit hd)
        have HN : RowKit.Hid (nameB c = (c == 95 || c == 39)) := Lib.hid (by simp [nameB, hs, hg, hd])
        clear hs hg hd
        by_cases h1 : c = 95
        · subst h1
          go_enter Tryz.func76, Tryz.ntmps76
          go_wp2_with (first
            | (go_at_call 74; ((with_reducible refine (HS.out _).mono ?_); rintro e w' ⟨rfl, rfl⟩))
            | (go_at_call 78; ((with_reducible refine (HG.out _).mono ?_); rintro e w' ⟨rfl, rfl⟩))
            | (go_at_call 81; ((with_reducible refine (HD.out _).mono ?_); rintro e w' ⟨rfl, rfl⟩)))
          go_ret
          exact ⟨ret_bool (by rw [HN.out]; rfl), rfl⟩
        · have h1' : (c == 95) = false := by simpa using h1
          have H1 := Lib.hid h1
          clear h1
          by_cases h2 : c = 39
          · subst h2
            go_enter Tryz.func76, Tryz.ntmps76
            go_wp2_with (first
              | (go_at_call 74; ((with_reducible refine (HS.out _).mono ?_); rintro e w' ⟨rfl, rfl⟩))
              | (go_at_call 78; ((with_reducible refine (HG.out _).mono ?_); rintro e w' ⟨rfl, rfl⟩))
              | (go_at_call 81; ((with_reducible refine (HD.out _).mono ?_); rintro e w' ⟨rfl, rfl⟩)))
            go_ret
            exact ⟨ret_bool (by rw [HN.out]; rfl), rfl⟩
          · have h2' : (c == 39) = false := by simpa using h2
            have H2 := Lib.hid h2
            clear h2
            go_enter Tryz.func76, Tryz.ntmps76
            go_wp2_with (first
              | (go_at_call 74; ((with_reducible refine (HS.out _).mono ?_); rintro e w' ⟨rfl, rfl⟩))
              | (go_at_call 78; ((with_reducible refine (HG.out _).mono ?_); rintro e w' ⟨rfl, rfl⟩))
              | (go_at_call 81; ((with_reducible refine (HD.out _).mono ?_); rintro e w' ⟨rfl, rfl⟩)))
            go_ret
            exact ⟨ret_bool (by rw [HN.out, h1', h2']; exact h2'), rfl⟩
      · have HS := Lib.hid (small_any.lit hs)
        have HG := Lib.hid (great_any.lit hg)
        have HD := Lib.hid (digit_any.lit hd)
        have HN : RowKit.Hid (nameB c = true) := Lib.hid (by simp [nameB, hd])
        clear hs hg hd
        go_enter Tryz.func76, Tryz.ntmps76
        go_wp2_with (first
          | (go_at_call 74; ((with_reducible refine (HS.out _).mono ?_); rintro e w' ⟨rfl, rfl⟩))
          | (go_at_call 78; ((with_reducible refine (HG.out _).mono ?_); rintro e w' ⟨rfl, rfl⟩))
          | (go_at_call 81; ((with_reducible refine (HD.out _).mono ?_); rintro e w' ⟨rfl, rfl⟩)))
        go_ret
        exact ⟨ret_bool (by rw [HN.out]), rfl⟩
    · have HS := Lib.hid (small_any.lit hs)
      have HG := Lib.hid (great_any.lit hg)
      have HN : RowKit.Hid (nameB c = true) := Lib.hid (by simp [nameB, hg])
      clear hs hg
      go_enter Tryz.func76, Tryz.ntmps76
      go_wp2_with (first
        | (go_at_call 74; ((with_reducible refine (HS.out _).mono ?_); rintro e w' ⟨rfl, rfl⟩))
        | (go_at_call 78; ((with_reducible refine (HG.out _).mono ?_); rintro e w' ⟨rfl, rfl⟩)))
      go_ret
      exact ⟨ret_bool (by rw [HN.out]), rfl⟩
  · have HS := Lib.hid (small_any.lit hs)
    have HN : RowKit.Hid (nameB c = true) := Lib.hid (by simp [nameB, hs])
    clear hs
    go_enter Tryz.func76, Tryz.ntmps76
    go_wp2_with (go_at_call 74; ((with_reducible refine (HS.out _).mono ?_); rintro e w' ⟨rfl, rfl⟩))
    go_ret
    exact ⟨ret_bool (by rw [HN.out]), rfl⟩
theorem var_any : ByteF 111 varB := by
  intro c w
  cases hn : nameB c
  · have HN := Lib.hid (name_any.lit hn)
    have HV : RowKit.Hid (varB c = false) := Lib.hid (by simp [varB, hn])
    clear hn
    go_enter Tryz.func111, Tryz.ntmps111
    go_wp2_with (go_at_call 76; ((with_reducible refine (HN.out _).mono ?_); rintro e w' ⟨rfl, rfl⟩))
    go_ret
    exact ⟨ret_bool (by rw [HV.out]), rfl⟩
  · have HN := Lib.hid (name_any.lit hn)
    have HV : RowKit.Hid (varB c = (c != 39)) := Lib.hid (by simp [varB, hn])
    clear hn
    by_cases h2 : c = 39
    · subst h2
      go_enter Tryz.func111, Tryz.ntmps111
      go_wp2_with (go_at_call 76; ((with_reducible refine (HN.out _).mono ?_); rintro e w' ⟨rfl, rfl⟩))
      go_ret
      exact ⟨ret_bool (by rw [HV.out]; rfl), rfl⟩
    · have h2' : (c == 39) = false := by simpa using h2
      have h3' : (c != 39) = true := by simpa using h2
      have H2 := Lib.hid h2
      clear h2
      go_enter Tryz.func111, Tryz.ntmps111
      go_wp2_with (go_at_call 76; ((with_reducible refine (HN.out _).mono ?_); rintro e w' ⟨rfl, rfl⟩))
      go_ret
      exact ⟨ret_bool (by rw [HV.out, h3']; exact h3'), rfl⟩
set_option maxRecDepth 100000 in
theorem count_name (s : ByteArray) (hs : s.size ≤ 1000) (h : ∀ i (hi : i < s.size), nameB (s[i].toNat : Int) = true) (w : World) :
    Calls Tryz.prog 75 #[.string s, .func (.func 76) #[] #[]] w fun e w' => e = .returned (.int .i64 s.size) ∧ w = w' := by
  have HG := Lib.hid h
  clear h
  go_enter Tryz.func75, Tryz.ntmps75
  go_wp2
  go_loop [5] (fun i => ∃ k : Nat, k ≤ s.size ∧ i = .int .i64 k) (fun i => s.size - (intOf i).toNat)
  case atStart => exact ⟨0, Nat.zero_le _, rfl⟩
  case round =>
    obtain ⟨k, hk, rfl⟩ := hrel
    by_cases hlt : k < s.size
    · have HC := Lib.hid (fun W => name_any.lit (HG.out k hlt) W)
      go_wp2_with (go_at_call 76; ((with_reducible refine (HC.out _).mono ?_); rintro e w' ⟨rfl, rfl⟩))
      go_round
      case rel => exact ⟨k + 1, by omega, by go_num⟩
      case measure => simp [intOf]; omega
    · obtain rfl : k = s.size := by omega
      go_wp2
      go_ret
      exact ⟨rfl, rfl⟩
set_option maxRecDepth 100000 in
theorem count_var (s : ByteArray) (hs : s.size ≤ 1000) (h : ∀ i (hi : i < s.size), varB (s[i].toNat : Int) = true) (w : World) :
    Calls Tryz.prog 75 #[.string s, .func (.func 111) #[] #[]] w fun e w' => e = .returned (.int .i64 s.size) ∧ w = w' := by
  have HG := Lib.hid h
  clear h
  go_enter Tryz.func75, Tryz.ntmps75
  go_wp2
  go_loop [5] (fun i => ∃ k : Nat, k ≤ s.size ∧ i = .int .i64 k) (fun i => s.size - (intOf i).toNat)
  case atStart => exact ⟨0, Nat.zero_le _, rfl⟩
  case round =>
    obtain ⟨k, hk, rfl⟩ := hrel
    by_cases hlt : k < s.size
    · have HC := Lib.hid (fun W => var_any.lit (HG.out k hlt) W)
      go_wp2_with (go_at_call 111; ((with_reducible refine (HC.out _).mono ?_); rintro e w' ⟨rfl, rfl⟩))
      go_round
      case rel => exact ⟨k + 1, by omega, by go_num⟩
      case measure => simp [intOf]; omega
    · obtain rfl : k = s.size := by omega
      go_wp2
      go_ret
      exact ⟨rfl, rfl⟩
end Go.Proofs.YthcpmdgdbceeiaaGreatDoor
