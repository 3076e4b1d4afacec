
/- GetUvarint. -/
import Derived.Test.YtfbfdkjimoomlaaC5
import Derived.BigQuiet
import Derived.Deep.QuietTactic
namespace Go.Proofs.Ytfbfdkjimoomlaa
open Go.RowKit

theorem isLast_any (c n : Nat) (hc : c < 256) (hn : n < 10) (w : World) : Calls Try.prog 68 #[.int .u8 c, .int .i64 n] w fun e w' => e = .returned (.bool (Cx.okLast c n)) ∧ w = w' := by
  by_cases h9 : n = 9
  · subst h9
    have HK : RowKit.Hid (Cx.okLast c 9 = ((c : Int) == 1)) := by
      unfold Cx.okLast
      rw [if_pos rfl]
      apply Lib.hid
      rw [Bool.eq_iff_iff]; simp; omega
    go_enter Try.func68, Try.ntmps68
    go_wp2
    go_ret
    exact ⟨ret_bool HK.out.symm, rfl⟩
  · have ht : ((n : Int) == 9) = false := by simp; omega
    have hk : Cx.okLast c n = (c != 0 || n == 0) := by unfold Cx.okLast; rw [if_neg h9]
    by_cases hc0 : 0 < c
    · have HK : RowKit.Hid (Cx.okLast c n = true) := by rw [hk]; apply Lib.hid; simp; omega
      have hd : decide (0 < (c : Int)) = true := by simp; omega
      clear hk
      go_enter Try.func68, Try.ntmps68
      go_wp2
      go_ret
      exact ⟨ret_bool HK.out.symm, rfl⟩
    · obtain rfl : c = 0 := by omega
      have HK : RowKit.Hid (Cx.okLast 0 n = ((n : Int) == 0)) := by rw [hk]; apply Lib.hid; rw [Bool.eq_iff_iff]; simp
      clear hk
      go_enter Try.func68, Try.ntmps68
      go_wp2
      go_ret
      exact ⟨ret_bool HK.out.symm, rfl⟩

theorem or_new (v k c : Nat) (hv : v < 128 ^ k) (hk : k ≤ 9) (hc : c < 256) (h9 : k = 9 → c % 128 ≤ 1) :
    bits .or .u64 (v : Int) (IntKind.u64.wrap (IntKind.u64.wrap (bits .andNot .u8 (c : Int) 128) * 2 ^ (7 * k))) = ((v + 128 ^ k * (c % 128) : Nat) : Int) := by
  have e1 : bits .andNot .u8 (c : Int) 128 = ((c % 128 : Nat) : Int) := by
    have h := u8_andNot_nat c 128 hc (by omega)
    rw [show 255 - 128 = 127 by rfl, nat_mask7] at h
    exact h
  have e2 : IntKind.u64.wrap ((c % 128 : Nat) : Int) = ((c % 128 : Nat) : Int) := by rw [IntKind.wrap_u64]; omega
  have e3 : ((c % 128 : Nat) : Int) * 2 ^ (7 * k) = ((128 ^ k * (c % 128) : Nat) : Int) := by rw [Cx.p128]; push_cast; rw [Int.mul_comm]
  have hb : 128 ^ k * (c % 128) < 18446744073709551616 := by
    rcases Nat.lt_or_ge k 9 with h | h
    · have a : 128 ^ k ≤ 128 ^ 8 := Nat.pow_le_pow_right (by decide) (by omega)
      have b : (128 : Nat) ^ 8 = 72057594037927936 := by decide
      have d : 128 ^ k * (c % 128) ≤ 128 ^ 8 * 127 := Nat.mul_le_mul a (by omega)
      omega
    · obtain rfl : k = 9 := by omega
      have d : 128 ^ 9 * (c % 128) ≤ 128 ^ 9 * 1 := Nat.mul_le_mul_left _ (h9 rfl)
      have b : (128 : Nat) ^ 9 = 9223372036854775808 := by decide
      omega
  have hv2 : v < 18446744073709551616 := by
    have a : 128 ^ k ≤ 128 ^ 9 := Nat.pow_le_pow_right (by decide) hk
    have b : (128 : Nat) ^ 9 = 9223372036854775808 := by decide
    omega
  have e4 : IntKind.u64.wrap ((128 ^ k * (c % 128) : Nat) : Int) = ((128 ^ k * (c % 128) : Nat) : Int) := by
    rw [IntKind.wrap_u64]
    generalize 128 ^ k * (c % 128) = q at *
    omega
  rw [e1, e2, e3, e4, u64_or_nat v _ hv2 hb, Nat.or_comm, nat_join (7 * k) _ _ (by rw [← Cx.p128]; exact Nat.mul_mod_right _ _) (by rw [← Cx.p128]; exact hv), Nat.add_comm]
theorem val_snoc (l : List UInt8) (k : Nat) (h : k < l.length) : Cx.val (l.take (k + 1)) = Cx.val (l.take k) + 128 ^ k * (l[k].toNat % 128) := by
  rw [List.take_succ_eq_append_getElem h, Cx.val_append, List.length_take, Nat.min_eq_left (by omega)]
  simp [Cx.val]
theorem getUv_yes (l : List UInt8) (k : Nat) (hk : k < l.length) (h10 : k < 10) (hh : ∀ j (h : j < k) (h2 : j < l.length), 128 ≤ (l[j]).toNat) (hc : l[k].toNat < 128) (hok : Cx.okLast l[k].toNat k = true) : Cx.getUv l = (Cx.val (l.take (k + 1)), k + 1) := by
  have e : Cx.lead l = k := Cx.lead_eq l k (by omega) (fun j h => hh j h (by omega)) (fun _ => hc)
  unfold Cx.getUv
  rw [e, if_pos]
  refine ⟨hk, h10, ?_⟩
  rw [List.getD_eq_getElem?_getD, List.getElem?_eq_getElem hk]
  exact hok
theorem getUv_no (l : List UInt8) (k : Nat) (hk : k < l.length) (hh : ∀ j (h : j < k) (h2 : j < l.length), 128 ≤ (l[j]).toNat) (hc : l[k].toNat < 128) (hok : Cx.okLast l[k].toNat k = false) : Cx.getUv l = (0, 0) := by
  have e : Cx.lead l = k := Cx.lead_eq l k (by omega) (fun j h => hh j h (by omega)) (fun _ => hc)
  unfold Cx.getUv
  rw [e, if_neg]
  rintro ⟨_, _, h⟩
  rw [List.getD_eq_getElem?_getD, List.getElem?_eq_getElem hk] at h
  simp only [Option.getD_some] at h
  rw [hok] at h
  cases h
theorem getUv_end (l : List UInt8) (k : Nat) (hk : k ≤ l.length) (hend : k = l.length ∨ k = 10) (hh : ∀ j (h : j < k) (h2 : j < l.length), 128 ≤ (l[j]).toNat) : Cx.getUv l = (0, 0) := by
  unfold Cx.getUv
  rw [if_neg]
  rintro ⟨h1, h2, _⟩
  have a := Cx.lead_low l h1
  have b := hh (Cx.lead l) (by omega) h1
  omega

def GetRel (l : List UInt8) (x i : Value) : Prop := ∃ (k : Nat) (z : Int), k ≤ min l.length 10 ∧ i = .int .i64 k ∧ x = .int .u64 z ∧ (k ≤ 9 → z = (Cx.val (l.take k) : Nat)) ∧ ∀ j (h : j < k) (h2 : j < l.length), 128 ≤ (l[j]).toNat

set_option maxRecDepth 100000 in
set_option maxHeartbeats 1000000 in
theorem getUvarint_any (s : ByteArray) (hs : s.size ≤ maxLen) (w : World) : Calls Try.prog 58 #[.string s] w fun e w' => e = .returned (.tuple #[.int .u64 ((Cx.getUv s.data.toList).1 : Nat), .int .i64 ((Cx.getUv s.data.toList).2 : Nat)]) ∧ w = w' := by
  unfold maxLen at hs
  go_enter Try.func58, Try.ntmps58
  go_wp2
  go_loop [4, 10] (fun x i => GetRel s.data.toList x i) (fun _ i => (min s.size 10) - (intOf i).toNat)
  case atStart => exact ⟨0, 0, Nat.zero_le _, rfl, rfl, fun _ => rfl, fun j h => by omega⟩
  case round =>
    obtain ⟨k, z, hk, rfl, rfl, hz, hh⟩ := hrel
    have hsz : s.data.toList.length = s.size := by simp
    have HZ := Lib.hid hz
    have HH := Lib.hid hh
    have hk2 : k ≤ s.size := by omega
    have hk3 : k ≤ 10 := by omega
    have HSZ := Lib.hid hsz
    clear hz hh hk hsz
    by_cases hlt : k < s.size ∧ k < 10
    · obtain ⟨hl1, hl2⟩ := hlt
      have hc256 := s[k].toNat_lt
      have hkl : k < s.data.toList.length := by rw [HSZ.out]; exact hl1
      have hs1 : s.data.toList[k] = s[k] := rfl
      have hval := val_snoc s.data.toList k hkl
      have hvl := Cx.val_lt (s.data.toList.take k)
      rw [List.length_take, Nat.min_eq_left (by omega)] at hvl
      rw [hs1] at hval
      have hzv := HZ.out (by omega)
      have hd10 : decide ((k : Int) < min (s.size : Int) 10) = true := by simp; omega
      by_cases hc : 128 ≤ s[k].toNat
      · have HX : RowKit.Hid (GetRel s.data.toList (.int .u64 (bits .or .u64 z (IntKind.u64.wrap (IntKind.u64.wrap (bits .andNot .u8 (s[k].toNat : Int) 128) * 2 ^ (7 * k))))) (.int .i64 ((k : Int) + 1))) := by
          refine ⟨k + 1, _, by rw [HSZ.out]; omega, by go_num, rfl, fun h => ?_, fun j h h2 => ?_⟩
          · rw [hzv, or_new _ k _ hvl (by omega) hc256 (by omega), hval]
          · rcases Nat.lt_or_ge j k with h3 | h3
            · exact HH.out j h3 h2
            · obtain rfl : j = k := by omega
              exact hc
        clear hval hvl hzv hs1
        have hd : decide (128 ≤ (s[k].toNat : Int)) = true := by simp; omega
        go_wp2
        go_round
        case rel => exact HX.out
        case measure => simp [intOf]; omega
      · have hclt : s[k].toNat < 128 := by omega
        have hd : decide (128 ≤ (s[k].toNat : Int)) = false := by simp; omega
        have hmod : s[k].toNat % 128 = s[k].toNat := by omega
        by_cases hok : Cx.okLast s[k].toNat k = true
        · have HG := Lib.hid (getUv_yes s.data.toList k hkl hl2 HH.out hclt hok)
          have HX : RowKit.Hid (bits .or .u64 z (IntKind.u64.wrap (IntKind.u64.wrap (bits .andNot .u8 (s[k].toNat : Int) 128) * 2 ^ (7 * k))) = ((Cx.getUv s.data.toList).1 : Nat)) := by
            rw [HG.out, hzv, or_new _ k _ hvl (by omega) hc256 (fun h9 => by
              unfold Cx.okLast at hok
              rw [if_pos h9] at hok
              have : s[k].toNat = 1 := by simpa using hok
              omega), hval]
            exact Lib.hid rfl
          have HN : RowKit.Hid (((k : Int) + 1) = ((Cx.getUv s.data.toList).2 : Nat)) := by rw [HG.out]; apply Lib.hid; simp
          clear hval hvl hzv hs1 hmod
          go_wp2_with (go_at_call 68; refine (isLast_any _ k (by omega) hl2 _).mono ?_; rintro e w2 ⟨rfl, rfl⟩)
          go_ret2
          refine ⟨?_, rfl⟩
          show Ending.returned (.tuple #[.int .u64 _, .int .i64 _]) = _
          rw [HX.out, HN.out]
        · have hok' : Cx.okLast s[k].toNat k = false := by simpa using hok
          have HG := Lib.hid (getUv_no s.data.toList k hkl HH.out hclt hok')
          clear hval hvl hzv hs1 hmod hok
          go_wp2_with (go_at_call 68; refine (isLast_any _ k (by omega) hl2 _).mono ?_; rintro e w2 ⟨rfl, rfl⟩)
          go_ret2
          refine ⟨?_, rfl⟩
          rw [HG.out]
          rfl
    · have HG := Lib.hid (getUv_end s.data.toList k (by rw [HSZ.out]; exact hk2) (by rw [HSZ.out]; omega) HH.out)
      have hd10 : decide ((k : Int) < min (s.size : Int) 10) = false := by simp; omega
      go_wp2
      go_ret2
      refine ⟨?_, rfl⟩
      rw [HG.out]
      rfl
end Go.Proofs.Ytfbfdkjimoomlaa
