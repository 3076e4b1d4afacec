
/- Contracts: isDigit, readNumber. -/
import Derived.Test.YtfbfdkjimoomlaaA4
import Derived.Test.YtfbfdkjimoomlaaA9
import Derived.Outline
namespace Go.Proofs.Ytfbfdkjimoomlaa
open Go.RowKit

theorem isDigit_any (c : UInt8) (w : World) : Calls Try.prog 54 #[.int .u8 (c.toNat : Nat)] w fun e w' => e = .returned (.bool (Sv.isDig c)) ∧ w = w' := by
  have hc : c.toNat < 256 := c.toNat_lt
  rcases Bool.eq_false_or_eq_true (Sv.isDig c) with h | h
  · obtain ⟨h1, h2⟩ := Sv.isDig_yes h
    have H := Lib.hid h
    clear h
    generalize hn : c.toNat = n at *
    have HN := Lib.hid hn
    clear hn
    have d1 : decide (48 ≤ (n : Int)) = true := by simp; omega
    have d2 : decide ((n : Int) ≤ 57) = true := by simp; omega
    go_enter Try.func54, Try.ntmps54
    go_wp2
    go_ret
    exact ⟨ret_bool H.out.symm, rfl⟩
  · rcases Sv.isDig_no h with h1 | ⟨h1, h2⟩
    · have H := Lib.hid h
      clear h
      generalize hn : c.toNat = n at *
      have HN := Lib.hid hn
      clear hn
      have d1 : decide (48 ≤ (n : Int)) = false := by simp; omega
      go_enter Try.func54, Try.ntmps54
      go_wp2
      go_ret
      exact ⟨ret_bool H.out.symm, rfl⟩
    · have H := Lib.hid h
      clear h
      generalize hn : c.toNat = n at *
      have HN := Lib.hid hn
      clear hn
      have d1 : decide (48 ≤ (n : Int)) = true := by simp; omega
      have d2 : decide ((n : Int) ≤ 57) = false := by simp; omega
      go_enter Try.func54, Try.ntmps54
      go_wp2
      go_ret
      exact ⟨ret_bool H.out.symm, rfl⟩

abbrev rn (l : List UInt8) : Value := .tuple #[.int .i64 (Sv.numV l : Nat), .bool (Sv.numB l)]
end Go.Proofs.Ytfbfdkjimoomlaa
