
/- Zigzags. -/
import Derived.Test.YtfbfdkjimoomlaaC0
namespace Go.Proofs.Ytfbfdkjimoomlaa
open Go.RowKit

namespace Cx
def zig (n : Int) : Nat := if 0 ≤ n then 2 * n.toNat else 2 * (-n - 1).toNat + 1
def zag (x : Nat) : Int := if x % 2 = 0 then ((x / 2 : Nat) : Int) else -((x / 2 : Nat) : Int) - 1
theorem zig_lt (n : Int) (h1 : -9223372036854775808 ≤ n) (h2 : n ≤ 9223372036854775807) : zig n < 18446744073709551616 := by
  unfold zig; split <;> omega
theorem zag_in (x : Nat) (h : x < 18446744073709551616) : -9223372036854775808 ≤ zag x ∧ zag x ≤ 9223372036854775807 := by
  unfold zag; split <;> omega
theorem zag_zig (n : Int) : zag (zig n) = n := by
  unfold zig
  split
  · unfold zag; rw [if_pos (by omega)]; omega
  · unfold zag; rw [if_neg (by omega)]; omega
theorem zig_zag (x : Nat) : zig (zag x) = x := by
  unfold zag
  split
  · unfold zig; rw [if_pos (by omega)]; omega
  · unfold zig; rw [if_neg (by omega)]; omega
end Cx

theorem turn64 (x : Nat) (hx : x < 18446744073709551616) : x ^^^ 18446744073709551615 = 18446744073709551615 - x := by
  have e := BitVec.toNat_not (x := BitVec.ofNat 64 x)
  have e2 : (~~~ BitVec.ofNat 64 x) = BitVec.ofNat 64 x ^^^ BitVec.ofNat 64 18446744073709551615 := by
    rw [← BitVec.xor_allOnes]; rfl
  rw [e2, BitVec.toNat_xor] at e
  simp only [BitVec.toNat_ofNat, Nat.mod_eq_of_lt (show x < 2 ^ 64 from hx)] at e
  simpa using e
theorem zig_val (n : Int) (h1 : -9223372036854775808 ≤ n) (h2 : n ≤ 9223372036854775807) :
    bits .xor .u64 (IntKind.u64.wrap (IntKind.u64.wrap n * 2)) (IntKind.u64.wrap (n / 9223372036854775808)) = (Cx.zig n : Nat) := by
  simp only [IntKind.wrap_u64]
  unfold Cx.zig
  split
  · have e1 : (n % 18446744073709551616 * 2) % 18446744073709551616 = ((2 * n.toNat : Nat) : Int) := by omega
    have e2 : n / 9223372036854775808 % 18446744073709551616 = ((0 : Nat) : Int) := by omega
    rw [e1, e2, u64_xor_nat _ _ (by omega) (by omega), Nat.xor_zero]
  · have e1 : (n % 18446744073709551616 * 2) % 18446744073709551616 = ((18446744073709551616 - 2 * (-n).toNat : Nat) : Int) := by omega
    have e2 : n / 9223372036854775808 % 18446744073709551616 = ((18446744073709551615 : Nat) : Int) := by omega
    rw [e1, e2, u64_xor_nat _ _ (by omega) (by omega), turn64 _ (by omega)]
    omega
theorem xor_none (m : Nat) (h : m < 9223372036854775808) : bits .xor .i64 (m : Int) 0 = (m : Int) := by
  show IntKind.i64.wrap ((BitVec.ofInt 64 (m : Int) ^^^ BitVec.ofInt 64 0).toNat : Int) = _
  have e : BitVec.ofInt 64 0 = 0#64 := by rfl
  rw [e, BitVec.xor_zero, ofInt_u64 m (by omega)]
  exact IntWalk.i64_in _ (by omega)
theorem xor_all (m : Nat) (h : m < 9223372036854775808) : bits .xor .i64 (m : Int) (-1) = -(m : Int) - 1 := by
  show IntKind.i64.wrap ((BitVec.ofInt 64 (m : Int) ^^^ BitVec.ofInt 64 (-1)).toNat : Int) = _
  have e : BitVec.ofInt 64 (-1) = BitVec.allOnes 64 := by decide
  rw [e, BitVec.xor_allOnes, BitVec.toNat_not, ofInt_u64 m (by omega)]
  simp only [IntKind.wrap, IntKind.bits, IntKind.signed]
  simp
  omega
theorem and_one64 (x : Nat) (hx : x < 18446744073709551616) : bits .and .u64 (x : Int) 1 = ((x % 2 : Nat) : Int) := by
  have := u64_and_nat x 1 hx (by omega)
  rw [nat_mask1] at this
  exact this

theorem zig_any (n : Int) (h1 : -9223372036854775808 ≤ n) (h2 : n ≤ 9223372036854775807) (w : World) : Calls Try.prog 62 #[.int .i64 n] w fun e w' => e = .returned (.int .u64 (Cx.zig n : Nat)) ∧ w = w' := by
  go_enter Try.func62, Try.ntmps62
  go_wp2
  go_ret
  exact ⟨ret_int (zig_val n h1 h2), rfl⟩
theorem refZig_any (n : Int) (h1 : -9223372036854775808 ≤ n) (h2 : n ≤ 9223372036854775807) (w : World) : Calls Try.prog 64 #[.int .i64 n] w fun e w' => e = .returned (.int .u64 (Cx.zig n : Nat)) ∧ w = w' := by
  by_cases h : 0 ≤ n
  · have e : 2 * n = (Cx.zig n : Nat) := by unfold Cx.zig; rw [if_pos h]; omega
    have H := Lib.hid e
    clear e
    go_enter Try.func64, Try.ntmps64
    go_wp2
    go_ret
    exact ⟨ret_int H.out, rfl⟩
  · have e : 2 * -(n + 1) + 1 = (Cx.zig n : Nat) := by unfold Cx.zig; rw [if_neg h]; omega
    have H := Lib.hid e
    clear e
    go_enter Try.func64, Try.ntmps64
    go_wp2
    go_ret
    exact ⟨ret_int H.out, rfl⟩
theorem zag_any (n : Nat) (h2 : n < 18446744073709551616) (w : World) : Calls Try.prog 63 #[.int .u64 n] w fun e w' => e = .returned (.int .i64 (Cx.zag n)) ∧ w = w' := by
  have ed : ((n : Int) / 2) = ((n / 2 : Nat) : Int) := by omega
  have HE : RowKit.Hid (bits BinOp.xor IntKind.i64 (↑n / 2) (wrap64 (-wrap64 (bits BinOp.and IntKind.u64 (↑n) 1))) = Cx.zag n) := by
    rw [and_one64 n h2, ed]
    unfold Cx.zag
    split
    · rename_i h
      rw [h, show wrap64 (-wrap64 ((0 : Nat) : Int)) = 0 by unfold wrap64; rfl, xor_none _ (by omega)]
      exact Lib.hid rfl
    · rename_i h
      rw [show n % 2 = 1 by omega, show wrap64 (-wrap64 ((1 : Nat) : Int)) = -1 by unfold wrap64; rfl, xor_all _ (by omega)]
      exact Lib.hid rfl
  clear ed
  go_enter Try.func63, Try.ntmps63
  go_wp2
  go_ret
  exact ⟨ret_int HE.out, rfl⟩
theorem refZag_any (n : Nat) (h2 : n < 18446744073709551616) (w : World) : Calls Try.prog 65 #[.int .u64 n] w fun e w' => e = .returned (.int .i64 (Cx.zag n)) ∧ w = w' := by
  by_cases h : n % 2 = 0
  · have ht : ((n : Int) % 2 == 0) = true := by simp; omega
    have e : ((n : Int) / 2) = Cx.zag n := by unfold Cx.zag; rw [if_pos h]; omega
    have H := Lib.hid e
    clear e
    go_enter Try.func65, Try.ntmps65
    go_wp2
    go_ret
    exact ⟨ret_int H.out, rfl⟩
  · have ht : ((n : Int) % 2 == 0) = false := by simp; omega
    have e : -((n : Int) / 2) - 1 = Cx.zag n := by unfold Cx.zag; rw [if_neg h]; omega
    have H := Lib.hid e
    clear e
    go_enter Try.func65, Try.ntmps65
    go_wp2
    go_ret
    exact ⟨ret_int H.out, rfl⟩
end Go.Proofs.Ytfbfdkjimoomlaa
