
/- A number's bytes are put behind bytes. -/
import Derived.Test.YtfbfdkjimoomlaaC0
import Derived.Test.YtfbfdkjimoomlaaM2
import Derived.Test.YtfbfdkjimoomlaaS1
namespace Go.Proofs.Ytfbfdkjimoomlaa
open Go.RowKit

def bytesV (l : List UInt8) : List Value := l.map fun c => Value.int .u8 (c.toNat : Nat)
theorem bytesV_append (l m : List UInt8) : bytesV (l ++ m) = bytesV l ++ bytesV m := by simp [bytesV]
theorem bytesV_len (l : List UInt8) : (bytesV l).length = l.length := by simp [bytesV]
theorem bytesV_one (l : List UInt8) : ∀ u ∈ bytesV l, u.oneCell' = true := by
  intro u hu
  simp only [bytesV, List.mem_map] at hu
  obtain ⟨c, _, rfl⟩ := hu
  rfl

namespace Cx
theorem bitLen_log (y : Nat) (h0 : y ≠ 0) (h : y < 18446744073709551616) : Lib.bitLen y = Nat.log2 y + 1 := by
  have a := Nat.log2_self_le h0
  have b : y / 2 ^ Nat.log2 y = 1 := by
    apply Nat.div_eq_of_lt_le
    · omega
    · have c : y < 2 ^ (Nat.log2 y + 1) := Nat.lt_log2_self
      rw [Nat.pow_succ] at c
      omega
  rw [Lib.bitLen_shift (Nat.log2 y) y a h, b, show Lib.bitLen 1 = 1 by decide, Nat.add_comm]
theorem or_one (x : Nat) : x ||| 1 = 2 * (x / 2) + 1 := by
  have a : x = 2 * (x / 2) ||| (x % 2) := by
    rw [nat_join 1 _ _ (by omega) (by omega)]
    omega
  have b : x % 2 ||| 1 = 1 := by
    rcases Nat.mod_two_eq_zero_or_one x with h | h <;> rw [h] <;> decide
  conv => lhs; rw [a]
  rw [Nat.or_assoc, b, nat_join 1 _ _ (by omega) (by omega)]
theorem top_code (x : Nat) (h : x < 18446744073709551616) : (Lib.bitLen (x ||| 1) - 1) / 7 = top x := by
  rw [or_one, bitLen_log _ (by omega) (by omega), Nat.add_sub_cancel]
  show top (2 * (x / 2) + 1) = top x
  apply top_eq
  · have := top_lt x
    rw [Nat.pow_succ] at this ⊢
    omega
  · intro h0
    have := top_le x h0
    omega
end Cx

theorem or128 : ∀ a : Fin 256, a.val ||| 128 = 128 + a.val % 128 := by decide +kernel
theorem q_cast (x k : Nat) : (x : Int) / 2 ^ (7 * k) = ((x / 128 ^ k : Nat) : Int) := by
  rw [Cx.p128]
  simp
theorem or_val (x k : Nat) : bits .or .u8 ((x : Int) / 2 ^ (7 * k) % 256) 128 = ((UInt8.ofNat (128 + x / 128 ^ k % 128)).toNat : Nat) := by
  rw [q_cast]
  generalize x / 128 ^ k = q
  have h := u8_or_nat (q % 256) 128 (by omega) (by omega)
  have h2 := or128 ⟨q % 256, by omega⟩
  simp only at h2
  have e : (q : Int) % 256 = ((q % 256 : Nat) : Int) := by omega
  rw [e]
  refine h.trans ?_
  rw [h2, UInt8.toNat_ofNat']
  omega
theorem last_val (x k : Nat) : (x : Int) / 2 ^ (7 * k) % 256 = ((UInt8.ofNat (x / 128 ^ k)).toNat : Nat) := by
  rw [q_cast, UInt8.toNat_ofNat']
  omega

theorem info5 : (Try.prog.info? 5).map (fun i => (i.zero, i.size, i.bytes)) = some (some (.int .u8 0), 1, 1) := by kernel_rfl

set_option maxHeartbeats 1000000 in
theorem add_any (base n x : Nat) (v : Value) (xs : List Value) (w : World) (hx : x < 18446744073709551616) (hown : w.ownsRow base 5 1 v n xs) (hn : n ≤ 1000000) (hbase : base ≤ w.heap.size) :
    Calls Try.prog 50 #[v, .int .u64 x] w fun e w' => ∃ v', e = .returned v' ∧ w'.ownsRow base 5 1 v' (n + (Cx.uv x).length) (xs ++ bytesV (Cx.uv x)) ∧ Below base w w' := by
  have ho : bits .or .u64 (x : Int) 1 = ((x ||| 1 : Nat) : Int) := u64_or_nat x 1 hx (by omega)
  have hol : x ||| 1 < 18446744073709551616 := by rw [Cx.or_one]; omega
  have hob : 1 ≤ Lib.bitLen (x ||| 1) := by rw [Cx.bitLen_log _ (by rw [Cx.or_one]; omega) hol]; omega
  have hob2 : Lib.bitLen (x ||| 1) ≤ 64 := by
    have h0 : x ||| 1 ≠ 0 := by rw [Cx.or_one]; omega
    rw [Cx.bitLen_log _ h0 hol]
    have := (Nat.log2_lt h0 (k := 64)).2 hol
    omega
  have hT := Cx.top_code x hx
  have ht9 := Cx.top_le9 x hx
  obtain ⟨i0, hi, hz0, hz1, hz2⟩ := info_parts info5
  generalize x ||| 1 = y at *
  have hq : ((Lib.bitLen y : Int) - 1) / 7 = (Cx.top x : Nat) := by omega
  have hy2 : (y : Int).toNat = y := by omega
  have HQ := Lib.hid hq
  clear hT hq
  go_enter Try.func50, Try.ntmps50
  go_wp2_with (go_at_call 66; refine (Try.bits_Len64 _ _ (by omega) (by omega)).mono ?_; rintro e w1 ⟨rfl, rfl⟩)
  rw [HQ.out]
  clear ho hol hob hob2 hy2 HQ
  generalize hL : Cx.top x = L at *
  have HL := Lib.hid hL
  clear hL
  go_loopw [0, 13] (fun v i wr => ∃ k : Nat, k ≤ L ∧ i = .int .i64 k ∧ wr.ownsRow base 5 1 v (n + k) (xs ++ bytesV (Cx.pre k x)) ∧ Below base w1 wr) (fun _ i _ => L - (intOf i).toNat)
  case atStart => exact ⟨0, by omega, rfl, by simpa [Cx.pre, bytesV] using hown, Below.refl _ _⟩
  case round =>
    obtain ⟨k, hk, rfl, hown1, hB⟩ := hrel
    have hb2 : base ≤ wr.heap.size := Nat.le_trans hbase hB.size
    by_cases hlt : k < L
    · have hv := or_val x k
      have HP := Lib.hid (Cx.pre_succ k x)
      generalize UInt8.ofNat (128 + x / 128 ^ k % 128) = c at *
      have hd : decide ((k : Int) < L) = true := by simp; omega
      go_wp2_with (at_builtin; refine wpList_append_own _ rfl (.tmp 16) (.tmp 23) 93 rfl base 5 i0 (.int .u8 0) 1 1 Try.underlying93 hi hz0 hz1 hz2 rfl (by decide) _ _ _ rfl (hown1.alloc _) ⟨wr.heap.size, 0, none⟩ 1 1 (bytesV [c]) rfl rfl ?c1 ?c2 ?c3 ?c4 ?c5 ?_)
      case c1 => exact new_cells wr _ _ _ rfl
      case c2 => exact bytesV_one _
      case c3 => unfold maxLen; omega
      case c4 => omega
      case c5 => simp; omega
      intro v' w2 hown2 hg2 _
      have hB2 := (hB.alloc hb2 (.cells #[.int .u8 (c.toNat : Nat)] 5)).grown hg2 (by simp; omega) (fun j hj => (hown1.lt j hj).1)
      go_wp2
      go_roundw
      case rel => exact ⟨k + 1, by omega, by go_num, by rw [HP.out, bytesV_append]; exact hown2, hB2⟩
      case measure => simp [intOf]; omega
    · obtain rfl : k = L := by omega
      have hv := last_val x k
      have HP : RowKit.Hid (Cx.uv x = Cx.pre k x ++ [UInt8.ofNat (x / 128 ^ k)]) := by
        rw [← Cx.uvn_pre, Cx.uv, HL.out]; exact Lib.hid rfl
      generalize UInt8.ofNat (x / 128 ^ k) = c at *
      go_wp2_with (at_builtin; refine wpList_append_own _ rfl (.tmp 26) (.tmp 32) 93 rfl base 5 i0 (.int .u8 0) 1 1 Try.underlying93 hi hz0 hz1 hz2 rfl (by decide) _ _ _ rfl (hown1.alloc _) ⟨wr.heap.size, 0, none⟩ 1 1 (bytesV [c]) rfl rfl ?d1 ?d2 ?d3 ?d4 ?d5 ?_)
      case d1 => exact new_cells wr _ _ _ rfl
      case d2 => exact bytesV_one _
      case d3 => unfold maxLen; omega
      case d4 => omega
      case d5 => simp; omega
      intro v' w2 hown2 hg2 _
      have hB2 := (hB.alloc hb2 (.cells #[.int .u8 (c.toNat : Nat)] 5)).grown hg2 (by simp; omega) (fun j hj => (hown1.lt j hj).1)
      go_wp2
      go_ret
      refine ⟨_, rfl, ?_, hB2⟩
      rw [HP.out, bytesV_append, List.length_append, Cx.pre_len, ← Nat.add_assoc]
      exact hown2
end Go.Proofs.Ytfbfdkjimoomlaa
