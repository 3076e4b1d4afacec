/- Names of letters and digits are names. -/
import Derived.Test.YtdaipgeecmngfaaVa
import Derived.Lib.Hide
namespace Go.Proofs.Ytdaipgeecmngfaa
open Go.RowKit

theorem nameByte_letter (c : Int) (w : World) (h1 : 97 ≤ c) (h2 : c ≤ 122) : Calls Try.prog 69 #[.int .u8 c] w fun e w' => e = .returned (.bool true) ∧ w = w' := by
  go_enter Try.func69, Try.ntmps69
  go_wp2
  go_ret
  exact ⟨rfl, rfl⟩
theorem nameByte_digit (c : Int) (w : World) (h1 : 48 ≤ c) (h2 : c ≤ 57) : Calls Try.prog 69 #[.int .u8 c] w fun e w' => e = .returned (.bool true) ∧ w = w' := by
  have h3 : ¬ 97 ≤ c := by omega
  go_enter Try.func69, Try.ntmps69
  go_wp2
  go_ret
  exact ⟨rfl, rfl⟩

def NameB (c : UInt8) : Prop := (97 ≤ (c.toNat : Int) ∧ (c.toNat : Int) ≤ 122) ∨ (48 ≤ (c.toNat : Int) ∧ (c.toNat : Int) ≤ 57)
theorem nameByte_ok (c : UInt8) (w : World) (h : NameB c) : Calls Try.prog 69 #[.int .u8 c.toNat] w fun e w' => e = .returned (.bool true) ∧ w = w' := by
  rcases h with ⟨h1, h2⟩ | ⟨h1, h2⟩
  · exact nameByte_letter _ w h1 h2
  · exact nameByte_digit _ w h1 h2

set_option maxHeartbeats 400000 in
theorem isName_ok (s : ByteArray) (w : World) (h1 : 1 ≤ s.size) (h2 : s.size ≤ 30) (hs : ∀ (k : Nat) (hk : k < s.size), NameB s[k]) : Calls Try.prog 48 #[.string s] w fun e w' => e = .returned (.bool true) ∧ w = w' := by
  have hS := Lib.hid hs
  clear hs
  go_enter Try.func48, Try.ntmps48
  go_wp2
  go_loop [14] (fun i => ∃ k : Nat, k ≤ s.size ∧ i = .int .i64 k) (fun i => s.size - (intOf i).toNat)
  case atStart => exact ⟨0, Nat.zero_le _, rfl⟩
  case round =>
    obtain ⟨k, hk, rfl⟩ := hrel
    by_cases hlt : k < s.size
    · have hB := Lib.hid (hS.out k hlt)
      go_wp2_with (first | (go_at_call 69; refine (nameByte_ok _ _ hB.out).mono ?_; rintro e w' ⟨rfl, rfl⟩) | go_in)
      go_round
      case rel => exact ⟨k + 1, by omega, by go_num⟩
      case measure => simp [intOf]; omega
    · go_wp2
      go_ret
      exact ⟨rfl, rfl⟩
end Go.Proofs.Ytdaipgeecmngfaa
