/- The document's number of digits; a text that it reads. -/
import Derived.Test.YtpedmkdpbdhenaaGreatDoorNc
import Derived.Test.YtpedmkdpbdhenaaGreatDoorLt
namespace Go.Proofs.YtpedmkdpbdhenaaGreatDoor
open Go.RowKit
set_option linter.unusedSimpArgs false
set_option linter.unusedVariables false
set_option maxHeartbeats 4000000 in
set_option maxRecDepth 100000 in
theorem numberD_any (s : ByteArray) (hall : ∀ c ∈ s.data.toList, dgB c = true) (h18 : s.size ≤ 18) (w : World) : Calls Tryz.prog 46 #[.string s] w fun e w' => e = .returned (.int .i64 (Sv.val s.data.toList : Nat)) ∧ w = w' := by
  have HA := Lib.hid hall
  clear hall
  go_enter Tryz.func46, Tryz.ntmps46
  go_wp2
  go_loop [3, 4] (fun n i => ∃ k : Nat, k ≤ s.size ∧ i = .int .i64 k ∧ n = .int .i64 (Sv.val (s.data.toList.take k) : Nat)) (fun _ i => s.size - (intOf i).toNat)
  case atStart => exact ⟨0, Nat.zero_le _, rfl, rfl⟩
  case round =>
    obtain ⟨k, hk, rfl, rfl⟩ := hrel
    by_cases hlt : k < s.size
    · have hki : (k : Int) < (s.size : Int) := by omega
      have hx := at_list s k hlt
      have hlk : k < s.data.toList.length := by rw [len_list]; exact hlt
      have hd := HA.out s[k] (List.mem_of_getElem? hx)
      have hv := Sv.val_take s.data.toList k hlk
      have hge : s.data.toList[k] = s[k] := by
        have := List.getElem?_eq_getElem hlk
        rw [hx] at this
        exact (Option.some.inj this).symm
      rw [hge] at hv
      have hb := Sv.val_lt (s.data.toList.take k) (fun c hc => by rw [← dg_is]; exact HA.out c (List.mem_of_mem_take hc))
      rw [List.length_take, len_list, Nat.min_eq_left hk] at hb
      have h10 : 10 ^ k ≤ 10 ^ 17 := Nat.pow_le_pow_right (by decide) (by omega)
      have h17 : (10 : Nat) ^ 17 = 100000000000000000 := by decide
      generalize Sv.val (s.data.toList.take k) = V at *
      have hVb : V ≤ 100000000000000000 := by omega
      rw [dg_is] at hd
      have hd1 : 48 ≤ s[k].toNat := (Sv.isDig_yes hd).1
      have hd2 : s[k].toNat ≤ 57 := (Sv.isDig_yes hd).2
      have HV := Lib.hid hv
      clear hv hb h10 h17 hx hd hge
      go_wp2
      go_round
      case rel => exact ⟨k + 1, by omega, by go_num, by rw [HV.out]; go_num⟩
      case measure => simp [intOf]; omega
    · have hki : ¬ (k : Int) < (s.size : Int) := by omega
      obtain rfl : k = s.size := by omega
      have hfull : s.data.toList.take s.size = s.data.toList := List.take_of_length_le (by rw [len_list]; exact Nat.le_refl _)
      obtain ⟨V, hV⟩ : ∃ V, Sv.val s.data.toList = V := ⟨_, rfl⟩
      have HV := Lib.hid hV
      rw [hfull, hV]
      clear hV hfull
      go_wp2
      go_ret
      exact ⟨ret_int (by rw [HV.out]), rfl⟩
theorem keep_one {s : ByteArray} {k : Nat} (hk : k < s.size) : s.extract k (k + 1) = ofL [s[k]] := by
  apply toList_inj
  rw [ByteArray.toList_eq, ByteArray.data_extract, Array.toList_extract, List.extract_eq_take_drop, ByteArray.toList_eq]
  rw [List.drop_eq_getElem_cons (by rw [len_list]; exact hk)]
  rw [Nat.add_sub_cancel_left]
  have hge : s.data.toList[k]'(by rw [len_list]; exact hk) = s[k] := by
    have h1 := List.getElem?_eq_getElem (l := s.data.toList) (i := k) (by rw [len_list]; exact hk)
    rw [at_list s k hk] at h1
    exact (Option.some.inj h1).symm
  rw [hge]
  rfl
theorem ofL_app (a b : List UInt8) : (ofL a) ++ (ofL b) = ofL (a ++ b) := by
  rw [str_add]
theorem escA_known {L : List UInt8} {k : Nat} {d : UInt8} (h : L[k]? = some d) : escA L k = escV d.toNat := by unfold escA; rw [h]
end Go.Proofs.YtpedmkdpbdhenaaGreatDoor
