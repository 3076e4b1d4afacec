/- The document's letters, digits, runs of them. -/
import Derived.Test.YtpedmkdpbdhenaaGreatDoorLa
import Derived.Test.YtpedmkdpbdhenaaGreatDoorLb
namespace Go.Proofs.YtpedmkdpbdhenaaGreatDoor
open Go.RowKit
set_option linter.unusedSimpArgs false
set_option linter.unusedVariables false
theorem smD_any (c : UInt8) (w : World) : Calls Tryz.prog 39 #[.int .u8 (c.toNat : Nat)] w fun e w' => e = .returned (.bool (smB c)) ∧ w = w' := by
  have hc : c.toNat < 256 := c.toNat_lt
  have hp : smB c = (decide (97 ≤ c.toNat) && decide (c.toNat ≤ 122)) := rfl
  rw [hp]
  clear hp
  generalize c.toNat = n at *
  by_cases h1 : 97 ≤ n
  · have d1 : decide ((97 : Int) ≤ (n : Int)) = true := by simp; omega
    have e1 : decide (97 ≤ n) = true := by simpa using h1
    by_cases h2 : n ≤ 122
    · have d2 : decide ((n : Int) ≤ 122) = true := by simp; omega
      have e2 : decide (n ≤ 122) = true := by simpa using h2
      rw [e1, e2]
      clear e1 e2
      go_enter Tryz.func39, Tryz.ntmps39
      go_wp2
      go_ret
      exact ⟨rfl, rfl⟩
    · have d2 : decide ((n : Int) ≤ 122) = false := by simp; omega
      have e2 : decide (n ≤ 122) = false := by simpa using h2
      rw [e1, e2]
      clear e1 e2
      go_enter Tryz.func39, Tryz.ntmps39
      go_wp2
      go_ret
      exact ⟨rfl, rfl⟩
  · have d1 : decide ((97 : Int) ≤ (n : Int)) = false := by simp; omega
    have e1 : decide (97 ≤ n) = false := by simpa using h1
    rw [e1, Bool.false_and]
    clear e1
    go_enter Tryz.func39, Tryz.ntmps39
    go_wp2
    go_ret
    exact ⟨rfl, rfl⟩
theorem grD_any (c : UInt8) (w : World) : Calls Tryz.prog 40 #[.int .u8 (c.toNat : Nat)] w fun e w' => e = .returned (.bool (grB c)) ∧ w = w' := by
  have hc : c.toNat < 256 := c.toNat_lt
  have hp : grB c = (decide (65 ≤ c.toNat) && decide (c.toNat ≤ 90)) := rfl
  rw [hp]
  clear hp
  generalize c.toNat = n at *
  by_cases h1 : 65 ≤ n
  · have d1 : decide ((65 : Int) ≤ (n : Int)) = true := by simp; omega
    have e1 : decide (65 ≤ n) = true := by simpa using h1
    by_cases h2 : n ≤ 90
    · have d2 : decide ((n : Int) ≤ 90) = true := by simp; omega
      have e2 : decide (n ≤ 90) = true := by simpa using h2
      rw [e1, e2]
      clear e1 e2
      go_enter Tryz.func40, Tryz.ntmps40
      go_wp2
      go_ret
      exact ⟨rfl, rfl⟩
    · have d2 : decide ((n : Int) ≤ 90) = false := by simp; omega
      have e2 : decide (n ≤ 90) = false := by simpa using h2
      rw [e1, e2]
      clear e1 e2
      go_enter Tryz.func40, Tryz.ntmps40
      go_wp2
      go_ret
      exact ⟨rfl, rfl⟩
  · have d1 : decide ((65 : Int) ≤ (n : Int)) = false := by simp; omega
    have e1 : decide (65 ≤ n) = false := by simpa using h1
    rw [e1, Bool.false_and]
    clear e1
    go_enter Tryz.func40, Tryz.ntmps40
    go_wp2
    go_ret
    exact ⟨rfl, rfl⟩
theorem digD_any (c : UInt8) (w : World) : Calls Tryz.prog 43 #[.int .u8 (c.toNat : Nat)] w fun e w' => e = .returned (.bool (dgB c)) ∧ w = w' := by
  have hc : c.toNat < 256 := c.toNat_lt
  have hp : dgB c = (decide (48 ≤ c.toNat) && decide (c.toNat ≤ 57)) := rfl
  rw [hp]
  clear hp
  generalize c.toNat = n at *
  by_cases h1 : 48 ≤ n
  · have d1 : decide ((48 : Int) ≤ (n : Int)) = true := by simp; omega
    have e1 : decide (48 ≤ n) = true := by simpa using h1
    by_cases h2 : n ≤ 57
    · have d2 : decide ((n : Int) ≤ 57) = true := by simp; omega
      have e2 : decide (n ≤ 57) = true := by simpa using h2
      rw [e1, e2]
      clear e1 e2
      go_enter Tryz.func43, Tryz.ntmps43
      go_wp2
      go_ret
      exact ⟨rfl, rfl⟩
    · have d2 : decide ((n : Int) ≤ 57) = false := by simp; omega
      have e2 : decide (n ≤ 57) = false := by simpa using h2
      rw [e1, e2]
      clear e1 e2
      go_enter Tryz.func43, Tryz.ntmps43
      go_wp2
      go_ret
      exact ⟨rfl, rfl⟩
  · have d1 : decide ((48 : Int) ≤ (n : Int)) = false := by simp; omega
    have e1 : decide (48 ≤ n) = false := by simpa using h1
    rw [e1, Bool.false_and]
    clear e1
    go_enter Tryz.func43, Tryz.ntmps43
    go_wp2
    go_ret
    exact ⟨rfl, rfl⟩
set_option maxHeartbeats 4000000 in
set_option maxRecDepth 100000 in
theorem digits_any (s : ByteArray) (hm : s.size ≤ 4194304) (i : Nat) (hi : i ≤ s.size) (w : World) : Calls Tryz.prog 45 #[.string s, .int .i64 i] w fun e w' => e = .returned (.int .i64 (cnt dgB (s.data.toList.drop i) : Nat)) ∧ w = w' := by
  go_enter Tryz.func45, Tryz.ntmps45
  go_wp2
  go_loop [5] (fun n => ∃ k : Nat, i + k ≤ s.size ∧ n = .int .i64 k ∧ ∀ j c, j < k → (s.data.toList.drop i)[j]? = some c → dgB c = true) (fun n => s.size - (intOf n).toNat)
  case atStart => exact ⟨0, hi, rfl, fun j c h => absurd h (by omega)⟩
  case round =>
    obtain ⟨k, hk, rfl, hp⟩ := hrel
    have HP := Lib.hid hp
    clear hp
    by_cases hlt : i + k < s.size
    · have HX := Lib.hid (at_list s (i + k) hlt)
      have hki : (i : Int) + (k : Int) < (s.size : Int) := by omega
      have HC := Lib.hid (fun w => digD_any s[i + k] w)
      cases hb : dgB s[i + k]
      · have HB := Lib.hid hb
        clear hb
        go_wp2_with (go_at_call 43; refine (HC.out _).mono ?_; rintro e w' ⟨rfl, rfl⟩; rw [HB.out])
        go_ret
        exact ⟨ret_int (by rw [cnt_stop (j := k) HP.out (fun c hc => by rw [List.getElem?_drop, HX.out] at hc; cases hc; exact HB.out) (by rw [List.length_drop, len_list]; omega)]), rfl⟩
      · have HB := Lib.hid hb
        clear hb
        go_wp2_with (go_at_call 43; refine (HC.out _).mono ?_; rintro e w' ⟨rfl, rfl⟩; rw [HB.out])
        go_round
        case rel =>
          refine ⟨k + 1, by omega, by go_num, fun j c hj hc => ?_⟩
          by_cases h : j < k
          · exact HP.out j c h hc
          · obtain rfl : j = k := by omega
            rw [List.getElem?_drop, HX.out] at hc
            cases hc
            exact HB.out
        case measure => simp [intOf]; omega
    · have hki : ¬ (i : Int) + (k : Int) < (s.size : Int) := by omega
      go_wp2
      go_ret
      exact ⟨ret_int (by rw [cnt_stop (j := k) HP.out (fun c hc => by have := (List.getElem?_eq_some_iff.1 hc).1; rw [List.length_drop, len_list] at this; omega) (by rw [List.length_drop, len_list]; omega)]), rfl⟩
/-- Names' bytes, apart. -/
theorem bytes_far' (c : UInt8) : (smB c = true → grB c = false ∧ dgB c = false ∧ nmB c = true ∧ vrB c = true) ∧ (grB c = true → dgB c = false ∧ nmB c = true ∧ vrB c = true) ∧ (dgB c = true → nmB c = true ∧ vrB c = true) ∧ True := by
  refine ⟨fun h => ?_, fun h => ?_, fun h => ?_, trivial⟩
  · have h' := h
    unfold smB at h
    simp at h
    exact ⟨by unfold grB; simp; omega, by unfold dgB; simp; omega, by unfold nmB; rw [h']; rfl, by unfold vrB nmB; rw [h']; simp; omega⟩
  · have h' := h
    unfold grB at h
    simp at h
    exact ⟨by unfold dgB; simp; omega, by unfold nmB; rw [h']; simp, by unfold vrB nmB; rw [h']; simp; omega⟩
  · have h' := h
    unfold dgB at h
    simp at h
    exact ⟨by unfold nmB; rw [h']; simp, by unfold vrB nmB; rw [h']; simp; omega⟩
set_option maxHeartbeats 8000000 in
set_option maxRecDepth 100000 in
theorem namedQ_any (s : ByteArray) (hm : s.size ≤ 4194304) (i : Nat) (hi : i ≤ s.size) (w : World) : Calls Tryz.prog 41 #[.string s, .int .i64 i, .bool true] w fun e w' => e = .returned (.int .i64 (cnt nmB (s.data.toList.drop i) : Nat)) ∧ w = w' := by
  go_enter Tryz.func41, Tryz.ntmps41
  go_wp2
  go_loop [7] (fun n => ∃ k : Nat, i + k ≤ s.size ∧ n = .int .i64 k ∧ ∀ j c, j < k → (s.data.toList.drop i)[j]? = some c → nmB c = true) (fun n => s.size - (intOf n).toNat)
  case atStart => exact ⟨0, hi, rfl, fun j c h => absurd h (by omega)⟩
  case round =>
    obtain ⟨k, hk, rfl, hp⟩ := hrel
    have HP := Lib.hid hp
    clear hp
    by_cases hlt : i + k < s.size
    · have HX := Lib.hid (at_list s (i + k) hlt)
      have hki : (i : Int) + (k : Int) < (s.size : Int) := by omega
      have HS := Lib.hid (fun w => smD_any s[i + k] w)
      have HG := Lib.hid (fun w => grD_any s[i + k] w)
      have HD := Lib.hid (fun w => digD_any s[i + k] w)
      have hfar := bytes_far' s[i + k]
      rcases (Bool.eq_false_or_eq_true (smB s[i + k])) with hs | hs
      · have HSB := Lib.hid hs
        have HGB := Lib.hid (hfar.1 hs).1
        have HDB := Lib.hid (hfar.1 hs).2.1
        have HB : RowKit.Hid (nmB s[i + k] = true) := Lib.hid ((hfar.1 hs).2.2.1)
        clear hs hfar
        go_wp2_with (first
          | (go_at_call 39; refine (HS.out _).mono ?_; rintro e w' ⟨rfl, rfl⟩; rw [HSB.out])
          | (go_at_call 40; refine (HG.out _).mono ?_; rintro e w' ⟨rfl, rfl⟩; rw [HGB.out])
          | (go_at_call 43; refine (HD.out _).mono ?_; rintro e w' ⟨rfl, rfl⟩; rw [HDB.out]))
        go_round
        case rel =>
          refine ⟨k + 1, by omega, by go_num, fun j c hj hc => ?_⟩
          by_cases h : j < k
          · exact HP.out j c h hc
          · obtain rfl : j = k := by omega
            rw [List.getElem?_drop, HX.out] at hc
            cases hc
            exact HB.out
        case measure => simp [intOf]; omega
      rcases (Bool.eq_false_or_eq_true (grB s[i + k])) with hg | hg
      · have HSB := Lib.hid hs
        have HGB := Lib.hid hg
        have HDB := Lib.hid (hfar.2.1 hg).1
        have HB : RowKit.Hid (nmB s[i + k] = true) := Lib.hid ((hfar.2.1 hg).2.1)
        clear hs hg hfar
        go_wp2_with (first
          | (go_at_call 39; refine (HS.out _).mono ?_; rintro e w' ⟨rfl, rfl⟩; rw [HSB.out])
          | (go_at_call 40; refine (HG.out _).mono ?_; rintro e w' ⟨rfl, rfl⟩; rw [HGB.out])
          | (go_at_call 43; refine (HD.out _).mono ?_; rintro e w' ⟨rfl, rfl⟩; rw [HDB.out]))
        go_round
        case rel =>
          refine ⟨k + 1, by omega, by go_num, fun j c hj hc => ?_⟩
          by_cases h : j < k
          · exact HP.out j c h hc
          · obtain rfl : j = k := by omega
            rw [List.getElem?_drop, HX.out] at hc
            cases hc
            exact HB.out
        case measure => simp [intOf]; omega
      rcases (Bool.eq_false_or_eq_true (dgB s[i + k])) with hd | hd
      · have HSB := Lib.hid hs
        have HGB := Lib.hid hg
        have HDB := Lib.hid hd
        have HB : RowKit.Hid (nmB s[i + k] = true) := Lib.hid ((hfar.2.2.1 hd).1)
        clear hs hg hd hfar
        go_wp2_with (first
          | (go_at_call 39; refine (HS.out _).mono ?_; rintro e w' ⟨rfl, rfl⟩; rw [HSB.out])
          | (go_at_call 40; refine (HG.out _).mono ?_; rintro e w' ⟨rfl, rfl⟩; rw [HGB.out])
          | (go_at_call 43; refine (HD.out _).mono ?_; rintro e w' ⟨rfl, rfl⟩; rw [HDB.out]))
        go_round
        case rel =>
          refine ⟨k + 1, by omega, by go_num, fun j c hj hc => ?_⟩
          by_cases h : j < k
          · exact HP.out j c h hc
          · obtain rfl : j = k := by omega
            rw [List.getElem?_drop, HX.out] at hc
            cases hc
            exact HB.out
        case measure => simp [intOf]; omega
      have HSB := Lib.hid hs
      have HGB := Lib.hid hg
      have HDB := Lib.hid hd
      by_cases h95 : s[i + k].toNat = 95
      · have d95 : ((s[i + k].toNat : Int) == 95) = true := by rw [h95]; rfl
        have HB : RowKit.Hid (nmB s[i + k] = true) := Lib.hid (by unfold nmB; rw [h95]; simp)
        clear hs hg hd hfar h95
        go_wp2_with (first
          | (go_at_call 39; refine (HS.out _).mono ?_; rintro e w' ⟨rfl, rfl⟩; rw [HSB.out])
          | (go_at_call 40; refine (HG.out _).mono ?_; rintro e w' ⟨rfl, rfl⟩; rw [HGB.out])
          | (go_at_call 43; refine (HD.out _).mono ?_; rintro e w' ⟨rfl, rfl⟩; rw [HDB.out]))
        go_round
        case rel =>
          refine ⟨k + 1, by omega, by go_num, fun j c hj hc => ?_⟩
          by_cases h : j < k
          · exact HP.out j c h hc
          · obtain rfl : j = k := by omega
            rw [List.getElem?_drop, HX.out] at hc
            cases hc
            exact HB.out
        case measure => simp [intOf]; omega
      have d95 : ((s[i + k].toNat : Int) == 95) = false := by rw [beq_eq_false_iff_ne]; omega
      by_cases h39 : s[i + k].toNat = 39
      · have d39 : ((s[i + k].toNat : Int) == 39) = true := by rw [h39]; rfl
        have HB : RowKit.Hid (nmB s[i + k] = true) := Lib.hid (by unfold nmB; rw [h39]; simp)
        clear hs hg hd hfar h95 h39
        go_wp2_with (first
          | (go_at_call 39; refine (HS.out _).mono ?_; rintro e w' ⟨rfl, rfl⟩; rw [HSB.out])
          | (go_at_call 40; refine (HG.out _).mono ?_; rintro e w' ⟨rfl, rfl⟩; rw [HGB.out])
          | (go_at_call 43; refine (HD.out _).mono ?_; rintro e w' ⟨rfl, rfl⟩; rw [HDB.out]))
        go_round
        case rel =>
          refine ⟨k + 1, by omega, by go_num, fun j c hj hc => ?_⟩
          by_cases h : j < k
          · exact HP.out j c h hc
          · obtain rfl : j = k := by omega
            rw [List.getElem?_drop, HX.out] at hc
            cases hc
            exact HB.out
        case measure => simp [intOf]; omega
      have d39 : ((s[i + k].toNat : Int) == 39) = false := by rw [beq_eq_false_iff_ne]; omega
      have HB : RowKit.Hid (nmB s[i + k] = false) := Lib.hid (by unfold nmB; rw [hs, hg, hd]; simp [h95, h39])
      clear hs hg hd hfar h95 h39
      go_wp2_with (first
        | (go_at_call 39; refine (HS.out _).mono ?_; rintro e w' ⟨rfl, rfl⟩; rw [HSB.out])
        | (go_at_call 40; refine (HG.out _).mono ?_; rintro e w' ⟨rfl, rfl⟩; rw [HGB.out])
        | (go_at_call 43; refine (HD.out _).mono ?_; rintro e w' ⟨rfl, rfl⟩; rw [HDB.out]))
      go_ret
      exact ⟨ret_int (by rw [cnt_stop (j := k) HP.out (fun c hc => by rw [List.getElem?_drop, HX.out] at hc; cases hc; exact HB.out) (by rw [List.length_drop, len_list]; omega)]), rfl⟩
    · have hki : ¬ (i : Int) + (k : Int) < (s.size : Int) := by omega
      go_wp2
      go_ret
      exact ⟨ret_int (by rw [cnt_stop (j := k) HP.out (fun c hc => by have := (List.getElem?_eq_some_iff.1 hc).1; rw [List.length_drop, len_list] at this; omega) (by rw [List.length_drop, len_list]; omega)]), rfl⟩
set_option maxHeartbeats 8000000 in
set_option maxRecDepth 100000 in
theorem namedN_any (s : ByteArray) (hm : s.size ≤ 4194304) (i : Nat) (hi : i ≤ s.size) (w : World) : Calls Tryz.prog 41 #[.string s, .int .i64 i, .bool false] w fun e w' => e = .returned (.int .i64 (cnt vrB (s.data.toList.drop i) : Nat)) ∧ w = w' := by
  go_enter Tryz.func41, Tryz.ntmps41
  go_wp2
  go_loop [7] (fun n => ∃ k : Nat, i + k ≤ s.size ∧ n = .int .i64 k ∧ ∀ j c, j < k → (s.data.toList.drop i)[j]? = some c → vrB c = true) (fun n => s.size - (intOf n).toNat)
  case atStart => exact ⟨0, hi, rfl, fun j c h => absurd h (by omega)⟩
  case round =>
    obtain ⟨k, hk, rfl, hp⟩ := hrel
    have HP := Lib.hid hp
    clear hp
    by_cases hlt : i + k < s.size
    · have HX := Lib.hid (at_list s (i + k) hlt)
      have hki : (i : Int) + (k : Int) < (s.size : Int) := by omega
      have HS := Lib.hid (fun w => smD_any s[i + k] w)
      have HG := Lib.hid (fun w => grD_any s[i + k] w)
      have HD := Lib.hid (fun w => digD_any s[i + k] w)
      have hfar := bytes_far' s[i + k]
      rcases (Bool.eq_false_or_eq_true (smB s[i + k])) with hs | hs
      · have HSB := Lib.hid hs
        have HGB := Lib.hid (hfar.1 hs).1
        have HDB := Lib.hid (hfar.1 hs).2.1
        have HB : RowKit.Hid (vrB s[i + k] = true) := Lib.hid ((hfar.1 hs).2.2.2)
        clear hs hfar
        go_wp2_with (first
          | (go_at_call 39; refine (HS.out _).mono ?_; rintro e w' ⟨rfl, rfl⟩; rw [HSB.out])
          | (go_at_call 40; refine (HG.out _).mono ?_; rintro e w' ⟨rfl, rfl⟩; rw [HGB.out])
          | (go_at_call 43; refine (HD.out _).mono ?_; rintro e w' ⟨rfl, rfl⟩; rw [HDB.out]))
        go_round
        case rel =>
          refine ⟨k + 1, by omega, by go_num, fun j c hj hc => ?_⟩
          by_cases h : j < k
          · exact HP.out j c h hc
          · obtain rfl : j = k := by omega
            rw [List.getElem?_drop, HX.out] at hc
            cases hc
            exact HB.out
        case measure => simp [intOf]; omega
      rcases (Bool.eq_false_or_eq_true (grB s[i + k])) with hg | hg
      · have HSB := Lib.hid hs
        have HGB := Lib.hid hg
        have HDB := Lib.hid (hfar.2.1 hg).1
        have HB : RowKit.Hid (vrB s[i + k] = true) := Lib.hid ((hfar.2.1 hg).2.2)
        clear hs hg hfar
        go_wp2_with (first
          | (go_at_call 39; refine (HS.out _).mono ?_; rintro e w' ⟨rfl, rfl⟩; rw [HSB.out])
          | (go_at_call 40; refine (HG.out _).mono ?_; rintro e w' ⟨rfl, rfl⟩; rw [HGB.out])
          | (go_at_call 43; refine (HD.out _).mono ?_; rintro e w' ⟨rfl, rfl⟩; rw [HDB.out]))
        go_round
        case rel =>
          refine ⟨k + 1, by omega, by go_num, fun j c hj hc => ?_⟩
          by_cases h : j < k
          · exact HP.out j c h hc
          · obtain rfl : j = k := by omega
            rw [List.getElem?_drop, HX.out] at hc
            cases hc
            exact HB.out
        case measure => simp [intOf]; omega
      rcases (Bool.eq_false_or_eq_true (dgB s[i + k])) with hd | hd
      · have HSB := Lib.hid hs
        have HGB := Lib.hid hg
        have HDB := Lib.hid hd
        have HB : RowKit.Hid (vrB s[i + k] = true) := Lib.hid ((hfar.2.2.1 hd).2)
        clear hs hg hd hfar
        go_wp2_with (first
          | (go_at_call 39; refine (HS.out _).mono ?_; rintro e w' ⟨rfl, rfl⟩; rw [HSB.out])
          | (go_at_call 40; refine (HG.out _).mono ?_; rintro e w' ⟨rfl, rfl⟩; rw [HGB.out])
          | (go_at_call 43; refine (HD.out _).mono ?_; rintro e w' ⟨rfl, rfl⟩; rw [HDB.out]))
        go_round
        case rel =>
          refine ⟨k + 1, by omega, by go_num, fun j c hj hc => ?_⟩
          by_cases h : j < k
          · exact HP.out j c h hc
          · obtain rfl : j = k := by omega
            rw [List.getElem?_drop, HX.out] at hc
            cases hc
            exact HB.out
        case measure => simp [intOf]; omega
      have HSB := Lib.hid hs
      have HGB := Lib.hid hg
      have HDB := Lib.hid hd
      by_cases h95 : s[i + k].toNat = 95
      · have d95 : ((s[i + k].toNat : Int) == 95) = true := by rw [h95]; rfl
        have HB : RowKit.Hid (vrB s[i + k] = true) := Lib.hid (by unfold vrB nmB; rw [h95]; simp)
        clear hs hg hd hfar h95
        go_wp2_with (first
          | (go_at_call 39; refine (HS.out _).mono ?_; rintro e w' ⟨rfl, rfl⟩; rw [HSB.out])
          | (go_at_call 40; refine (HG.out _).mono ?_; rintro e w' ⟨rfl, rfl⟩; rw [HGB.out])
          | (go_at_call 43; refine (HD.out _).mono ?_; rintro e w' ⟨rfl, rfl⟩; rw [HDB.out]))
        go_round
        case rel =>
          refine ⟨k + 1, by omega, by go_num, fun j c hj hc => ?_⟩
          by_cases h : j < k
          · exact HP.out j c h hc
          · obtain rfl : j = k := by omega
            rw [List.getElem?_drop, HX.out] at hc
            cases hc
            exact HB.out
        case measure => simp [intOf]; omega
      have d95 : ((s[i + k].toNat : Int) == 95) = false := by rw [beq_eq_false_iff_ne]; omega
      have HB : RowKit.Hid (vrB s[i + k] = false) := Lib.hid (by unfold vrB nmB; rw [hs, hg, hd]; simp [h95])
      clear hs hg hd hfar h95
      go_wp2_with (first
        | (go_at_call 39; refine (HS.out _).mono ?_; rintro e w' ⟨rfl, rfl⟩; rw [HSB.out])
        | (go_at_call 40; refine (HG.out _).mono ?_; rintro e w' ⟨rfl, rfl⟩; rw [HGB.out])
        | (go_at_call 43; refine (HD.out _).mono ?_; rintro e w' ⟨rfl, rfl⟩; rw [HDB.out]))
      go_ret
      exact ⟨ret_int (by rw [cnt_stop (j := k) HP.out (fun c hc => by rw [List.getElem?_drop, HX.out] at hc; cases hc; exact HB.out) (by rw [List.length_drop, len_list]; omega)]), rfl⟩
    · have hki : ¬ (i : Int) + (k : Int) < (s.size : Int) := by omega
      go_wp2
      go_ret
      exact ⟨ret_int (by rw [cnt_stop (j := k) HP.out (fun c hc => by have := (List.getElem?_eq_some_iff.1 hc).1; rw [List.length_drop, len_list] at this; omega) (by rw [List.length_drop, len_list]; omega)]), rfl⟩
end Go.Proofs.YtpedmkdpbdhenaaGreatDoor
