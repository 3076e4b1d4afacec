
/- Contracts: isDigit, readNumber. -/
import Derived.Test.YtpedmkdpbdhenaaGreatDoorA4
import Derived.Test.YtpedmkdpbdhenaaGreatDoorM1
import Derived.Outline
namespace Go.Proofs.YtpedmkdpbdhenaaGreatDoor
open Go.RowKit

theorem isDigit_any (c : UInt8) (w : World) : Calls Tryz.prog 90 #[.int .u8 (c.toNat : Nat)] w fun e w' => e = .returned (.bool (Sv.isDig c)) ∧ w = w' := by
  have hc : c.toNat < 256 := c.toNat_lt
  rcases Bool.eq_false_or_eq_true (Sv.isDig c) with h | h
  · obtain ⟨h1, h2⟩ := Sv.isDig_yes h
    have H := Lib.hid h
    clear h
    generalize hn : c.toNat = n at *
    have HN := Lib.hid hn
    clear hn
    have d1 : decide (48 ≤ (n : Int)) = true := by simp; omega
    have d2 : decide ((n : Int) ≤ 57) = true := by simp; omega
    go_enter Tryz.func90, Tryz.ntmps90
    go_wp2
    go_ret
    exact ⟨ret_bool H.out.symm, rfl⟩
  · rcases Sv.isDig_no h with h1 | ⟨h1, h2⟩
    · have H := Lib.hid h
      clear h
      generalize hn : c.toNat = n at *
      have HN := Lib.hid hn
      clear hn
      have d1 : decide (48 ≤ (n : Int)) = false := by simp; omega
      go_enter Tryz.func90, Tryz.ntmps90
      go_wp2
      go_ret
      exact ⟨ret_bool H.out.symm, rfl⟩
    · have H := Lib.hid h
      clear h
      generalize hn : c.toNat = n at *
      have HN := Lib.hid hn
      clear hn
      have d1 : decide (48 ≤ (n : Int)) = true := by simp; omega
      have d2 : decide ((n : Int) ≤ 57) = false := by simp; omega
      go_enter Tryz.func90, Tryz.ntmps90
      go_wp2
      go_ret
      exact ⟨ret_bool H.out.symm, rfl⟩

abbrev rn (l : List UInt8) : Value := .tuple #[.int .i64 (Sv.numV l : Nat), .bool (Sv.numB l)]
theorem read_none (w : World) : Calls Tryz.prog 77 #[.string ⟨#[]⟩] w fun e w' => e = .returned (.tuple #[.int .i64 0, .bool false]) ∧ w = w' := by
  go_enter Tryz.func77, Tryz.ntmps77
  go_wp2
  go_ret2
  exact ⟨rfl, rfl⟩
set_option maxRecDepth 100000 in
theorem read_zero (s : ByteArray) (h1 : 1 < s.size) (hm : s.size ≤ 4194304) (hz : s[0].toNat = 48) (w : World) : Calls Tryz.prog 77 #[.string s] w fun e w' => e = .returned (.tuple #[.int .i64 0, .bool false]) ∧ w = w' := by
  have e0 : ((s[0].toNat : Int) == 48) = true := by rw [hz]; rfl
  have HZ := Lib.hid hz
  clear hz
  have e1 : s.toList.isEmpty = false := by
    rw [ByteArray.toList_eq]
    cases h : s.data.toList with
    | nil => have : s.size = 0 := by rw [← ByteArray.size_data, ← Array.length_toList, h]; rfl
             omega
    | cons a l => rfl
  have e2 : ¬ s.toList = [] := by intro h; rw [h] at e1; cases e1
  have h2 : 0 < s.size := by omega
  have d1 : decide (1 < (s.size : Int)) = true := by simp; omega
  go_enter Tryz.func77, Tryz.ntmps77
  go_wp2
  go_ret2
  exact ⟨rfl, rfl⟩

set_option maxRecDepth 100000 in
set_option maxHeartbeats 1000000 in
theorem read_loop (s : ByteArray) (h0 : 0 < s.size) (hm : s.size ≤ 4194304) (hz : s[0].toNat ≠ 48 ∨ s.size = 1) (w : World) : Calls Tryz.prog 77 #[.string s] w fun e w' => e = .returned (rn s.data.toList) ∧ w = w' := by
  have e1 : s.toList.isEmpty = false := by
    rw [ByteArray.toList_eq]
    cases h : s.data.toList with
    | nil => have : s.size = 0 := by rw [← ByteArray.size_data, ← Array.length_toList, h]; rfl
             omega
    | cons a l => rfl
  have e2 : ¬ s.toList = [] := by intro h; rw [h] at e1; cases e1
  have HL : RowKit.Hid (s.data.toList.length = s.size) := Lib.hid (by simp)
  have HE : RowKit.Hid (∀ k (h : k < s.size) (h2 : k < s.data.toList.length), s.data.toList[k] = s[k]) := Lib.hid (fun k h h2 => by simp; rfl)
  have HZ : RowKit.Hid (¬ (s.data.toList.head? = some 48 ∧ 1 < s.data.toList.length)) := Lib.hid (by
    rintro ⟨g1, g2⟩
    rw [HL.out] at g2
    rcases hz with hz | hz
    · rw [List.head?_eq_getElem?, List.getElem?_eq_getElem (by rw [HL.out]; exact h0), HE.out 0 h0] at g1
      apply hz
      rw [Option.some.inj g1]
      rfl
    · omega)
  have HQ := Lib.hid hz
  have hh : (((s[0].toNat : Int) == 48) = true ∧ decide (1 < (s.size : Int)) = false) ∨ ((s[0].toNat : Int) == 48) = false := by
    rcases hz with h | h
    · right; simp; omega
    · rcases Bool.eq_false_or_eq_true ((s[0].toNat : Int) == 48) with e0 | e0
      · left; exact ⟨e0, by simp; omega⟩
      · exact .inr e0
  clear hz
  rcases hh with ⟨e0, d1⟩ | e0
  all_goals
    go_enter Tryz.func77, Tryz.ntmps77
    go_wp2
    go_loop [2, 19] (fun n i => ∃ k : Nat, k ≤ s.size ∧ i = .int .i64 k ∧ n = .int .i64 (Sv.val (s.data.toList.take k) : Nat) ∧ Sv.val (s.data.toList.take k) ≤ 999999 ∧ (∀ c ∈ s.data.toList.take k, Sv.isDig c = true)) (fun _ i => s.size - (intOf i).toNat)
    case atStart => exact ⟨0, Nat.zero_le _, rfl, rfl, by simp [Sv.val_nil], by simp⟩
    case round =>
      obtain ⟨k, hk, rfl, rfl, hv, hd⟩ := hrel
      have HD := Lib.hid hd
      clear hd
      by_cases hlt : k < s.size
      · have HV : RowKit.Hid (Sv.val (s.data.toList.take (k + 1)) = 10 * Sv.val (s.data.toList.take k) + (s[k].toNat - 48)) := Lib.hid (by rw [Sv.val_take _ k (by rw [HL.out]; exact hlt), HE.out k hlt])
        have HT : RowKit.Hid (s.data.toList.take (k + 1) = s.data.toList.take k ++ [s[k]]) := Lib.hid (by rw [Sv.take_snoc _ k (by rw [HL.out]; exact hlt), HE.out k hlt])
        have hcl : s[k].toNat < 256 := s[k].toNat_lt
        generalize hvv : Sv.val (s.data.toList.take k) = v at *
        have HW := Lib.hid hvv
        clear hvv
        rcases Bool.eq_false_or_eq_true (Sv.isDig s[k]) with h | h
        · obtain ⟨h1, h2⟩ := Sv.isDig_yes h
          have H := Lib.hid h
          clear h
          by_cases h9 : 10 * v + (s[k].toNat - 48) ≤ 999999
          · have d9 : decide (999999 < 10 * (v : Int) + ((s[k].toNat : Int) - 48)) = false := by simp; omega
            go_wp2_with (go_at_call 90; ((with_reducible refine (isDigit_any s[k] _).mono ?_); rintro e w' ⟨rfl, rfl⟩; rw [H.out]))
            go_round
            case rel =>
              have e : 10 * (v : Int) + ((s[k].toNat : Int) - 48) = ((Sv.val (s.data.toList.take (k + 1)) : Nat) : Int) := by rw [HV.out]; omega
              refine ⟨k + 1, by omega, by go_num, by rw [e], by rw [HV.out]; omega, ?_⟩
              intro c hc
              rw [HT.out] at hc
              rcases List.mem_append.1 hc with hc | hc
              · exact HD.out c hc
              · rw [List.mem_singleton.1 hc]; exact H.out
            case measure => simp [intOf]; omega
          · have d9 : decide (999999 < 10 * (v : Int) + ((s[k].toNat : Int) - 48)) = true := by simp; omega
            go_wp2_with (go_at_call 90; ((with_reducible refine (isDigit_any s[k] _).mono ?_); rintro e w' ⟨rfl, rfl⟩; rw [H.out]))
            go_ret2
            have hno := Sv.num_no (Sv.no_big (l := s.data.toList) (k := k + 1) (by rw [HV.out]; omega))
            exact ⟨by rw [rn, hno.1, hno.2]; rfl, rfl⟩
        · have H := Lib.hid h
          clear h
          go_wp2_with (go_at_call 90; ((with_reducible refine (isDigit_any s[k] _).mono ?_); rintro e w' ⟨rfl, rfl⟩; rw [H.out]))
          go_ret2
          have hno := Sv.num_no (Sv.no_digit (l := s.data.toList) (k := k) (by rw [HL.out]; exact hlt) (by rw [HE.out k hlt]; exact H.out))
          exact ⟨by rw [rn, hno.1, hno.2]; rfl, rfl⟩
      · go_wp2
        go_ret2
        obtain rfl : k = s.size := by omega
        have et : s.data.toList.take s.size = s.data.toList := by rw [← HL.out, List.take_length]
        have hyes := Sv.num_yes (l := s.data.toList) ⟨fun h => by have := HL.out; rw [h] at this; simp at this; omega, HZ.out, by have := HD.out; rw [et] at this; exact this, by rw [et] at hv; exact hv⟩
        exact ⟨by rw [rn, hyes.1, hyes.2, et]; rfl, rfl⟩
theorem readNumber_any (s : ByteArray) (hm : s.size ≤ 4194304) (w : World) : Calls Tryz.prog 77 #[.string s] w fun e w' => e = .returned (rn s.data.toList) ∧ w = w' := by
  by_cases h0 : s.size = 0
  · obtain rfl : s = ⟨#[]⟩ := by
      obtain ⟨a⟩ := s
      have : a = #[] := Array.eq_empty_of_size_eq_zero h0
      rw [this]
    have hno := Sv.num_no Sv.no_empty
    have e : rn (⟨#[]⟩ : ByteArray).data.toList = .tuple #[.int .i64 0, .bool false] := by
      show rn [] = _
      rw [rn, hno.1, hno.2]; rfl
    rw [e]
    exact read_none w
  · by_cases hz : s[0].toNat ≠ 48 ∨ s.size = 1
    · exact read_loop s (by omega) hm hz w
    · have h48 : s[0].toNat = 48 := by
        rcases Nat.decEq (s[0].toNat) 48 with h | h
        · exact absurd (.inl h) hz
        · exact h
      have h1 : 1 < s.size := by
        have : ¬ s.size = 1 := fun h => hz (.inr h)
        omega
      have hno := Sv.num_no (Sv.no_zero (l := s.data.toList) (by
        rw [List.head?_eq_getElem?, List.getElem?_eq_getElem (by simp; omega)]
        congr 1
        apply UInt8.toNat_inj.1
        exact h48) (by simp; omega))
      rw [rn, hno.1, hno.2]
      exact read_zero s h1 hm h48 w
end Go.Proofs.YtpedmkdpbdhenaaGreatDoor
