
/- Blanks and remarks, skipped. -/
import Derived.Test.YtpedmkdpbdhenaaGreatDoorLa
namespace Go.Proofs.YtpedmkdpbdhenaaGreatDoor
open Go.RowKit
set_option linter.unusedSimpArgs false
set_option linter.unusedVariables false
theorem sfx_list (s : ByteArray) (k : Nat) : (s.extract k s.size).data.toList = s.data.toList.drop k := by
  rw [ByteArray.data_extract, Array.toList_extract]
  simp only [List.extract_eq_take_drop]
  rw [List.take_of_length_le (by rw [List.length_drop, len_list]; omega)]
theorem sfx_size (s : ByteArray) (k : Nat) : (s.extract k s.size).size = s.size - k := by
  simp [ByteArray.size_extract]
theorem sfx_zero (s : ByteArray) : s.extract 0 s.size = s := by
  simp
/-- How many bytes the next run of blanks, or the next remark, has. -/
def sn (l : List UInt8) : Nat := if Lib.hasPrefix l [45, 45] then cnt notNl l else cnt blB l
theorem sn_le (l : List UInt8) : sn l ≤ l.length := by
  unfold sn
  split <;> exact cnt_le _ _
def skF : Nat → List UInt8 → Nat
  | 0, _ => 0
  | f + 1, l => if sn l = 0 then 0 else sn l + skF f (l.drop (sn l))
/-- How many bytes blanks and remarks have at the beginning. -/
def skM (l : List UInt8) : Nat := skF (l.length + 1) l
theorem skF_any : ∀ (f g : Nat) (l : List UInt8), l.length < f → l.length < g → skF f l = skF g l := by
  intro f
  induction f with
  | zero => intro g l h; omega
  | succ f ih =>
    intro g l h1 h2
    cases g with
    | zero => omega
    | succ g =>
      unfold skF
      by_cases h : sn l = 0
      · rw [if_pos h, if_pos h]
      · rw [if_neg h, if_neg h]
        have := sn_le l
        rw [ih g (l.drop (sn l)) (by rw [List.length_drop]; omega) (by rw [List.length_drop]; omega)]
theorem skM_zero {l : List UInt8} (h : sn l = 0) : skM l = 0 := by
  unfold skM skF
  rw [if_pos h]
theorem skM_step {l : List UInt8} (h : sn l ≠ 0) : skM l = sn l + skM (l.drop (sn l)) := by
  have hl := sn_le l
  unfold skM
  rw [skF, if_neg h]
  rw [skF_any l.length ((l.drop (sn l)).length + 1) _ (by rw [List.length_drop]; omega) (by omega)]
theorem skM_le : ∀ (n : Nat) (l : List UInt8), l.length = n → skM l ≤ l.length := by
  intro n
  induction n using Nat.strongRecOn with
  | ind n ih =>
    intro l hn
    by_cases h : sn l = 0
    · rw [skM_zero h]; omega
    · have hl := sn_le l
      rw [skM_step h]
      have := ih (l.drop (sn l)).length (by rw [List.length_drop]; omega) _ rfl
      rw [List.length_drop] at this
      omega
set_option maxHeartbeats 1000000 in
set_option maxRecDepth 100000 in
theorem skip_any (s : ByteArray) (hm : s.size ≤ 4194304) (k : Nat) (hk : k ≤ s.size) (w : World) :
    Calls Tryz.prog 20 #[.string s, .int .i64 (k : Nat)] w fun e w' => e = .returned (.int .i64 (k + skM (s.data.toList.drop k) : Nat)) ∧ w = w' := by
  go_enter Tryz.func20, Tryz.ntmps20
  go_wp2
  go_loop [1] (fun i => ∃ j : Nat, j ≤ s.size ∧ i = .int .i64 j ∧ j + skM (s.data.toList.drop j) = k + skM (s.data.toList.drop k)) (fun i => s.size - (intOf i).toNat)
  case atStart => exact ⟨k, hk, rfl, rfl⟩
  case round =>
    obtain ⟨j, hj, rfl, hp⟩ := hrel
    have HP := Lib.hid hp
    clear hp
    have hji : (j : Int) ≤ (s.size : Int) := by omega
    have HC := Lib.hid (fun w => countBlank (s.extract j s.size) (by rw [sfx_size]; omega) w)
    have HD := Lib.hid (fun w => countRem (s.extract j s.size) (by rw [sfx_size]; omega) w)
    have HL := Lib.hid (sfx_list s j)
    cases hb : Lib.hasPrefix (s.data.toList.drop j) [45, 45]
    · have hsn : sn (s.data.toList.drop j) = cnt blB (s.data.toList.drop j) := by unfold sn; rw [hb]; rfl
      have hle := sn_le (s.data.toList.drop j)
      rw [List.length_drop, len_list] at hle
      obtain ⟨N, hN⟩ : ∃ N, cnt blB (s.data.toList.drop j) = N := ⟨_, rfl⟩
      have HZ : N = 0 → skM (s.data.toList.drop j) = 0 := fun h => skM_zero (by rw [hsn, hN, h])
      have HY : N ≠ 0 → skM (s.data.toList.drop j) = N + skM (s.data.toList.drop (j + N)) := fun h => by
        have := skM_step (l := s.data.toList.drop j) (by rw [hsn, hN]; exact h)
        rw [hsn, hN, List.drop_drop] at this
        exact this
      rw [hsn, hN] at hle
      have HB := Lib.hid hb
      have HN := Lib.hid hN
      clear hN hsn hb
      by_cases hz : N = 0
      · have H0 := Lib.hid (HZ hz)
        clear HZ HY
        subst hz
        go_wp2_with (first
          | (go_at_call 29; refine (HC.out _).mono ?_; rintro e w' ⟨rfl, rfl⟩; rw [HL.out, HN.out])
          | (go_at_call 36; refine (Tryz.strings_HasPrefix (s.extract j s.size) _ _).mono ?_; rintro e w' ⟨rfl, rfl⟩; rw [HL.out, HB.out]))
        go_ret
        have h0 := H0.out
        have h1 := HP.out
        rw [h0] at h1
        exact ⟨ret_int (by omega), rfl⟩
      · have H0 := Lib.hid (HY hz)
        clear HZ HY
        have hni : ((N : Int) == 0) = false := by rw [beq_eq_false_iff_ne]; omega
        go_wp2_with (first
          | (go_at_call 29; refine (HC.out _).mono ?_; rintro e w' ⟨rfl, rfl⟩; rw [HL.out, HN.out])
          | (go_at_call 36; refine (Tryz.strings_HasPrefix (s.extract j s.size) _ _).mono ?_; rintro e w' ⟨rfl, rfl⟩; rw [HL.out, HB.out]))
        go_round
        case rel =>
          refine ⟨j + N, by omega, by go_num, ?_⟩
          have h0 := H0.out
          have h1 := HP.out
          rw [h0] at h1
          omega
        case measure => simp [intOf]; omega
    · have hsn : sn (s.data.toList.drop j) = cnt notNl (s.data.toList.drop j) := by unfold sn; rw [hb]; rfl
      have hle := sn_le (s.data.toList.drop j)
      rw [List.length_drop, len_list] at hle
      obtain ⟨N, hN⟩ : ∃ N, cnt notNl (s.data.toList.drop j) = N := ⟨_, rfl⟩
      have HZ : N = 0 → skM (s.data.toList.drop j) = 0 := fun h => skM_zero (by rw [hsn, hN, h])
      have HY : N ≠ 0 → skM (s.data.toList.drop j) = N + skM (s.data.toList.drop (j + N)) := fun h => by
        have := skM_step (l := s.data.toList.drop j) (by rw [hsn, hN]; exact h)
        rw [hsn, hN, List.drop_drop] at this
        exact this
      rw [hsn, hN] at hle
      have HB := Lib.hid hb
      have HN := Lib.hid hN
      clear hN hsn hb
      by_cases hz : N = 0
      · have H0 := Lib.hid (HZ hz)
        clear HZ HY
        subst hz
        go_wp2_with (first
          | (go_at_call 29; with_reducible refine (HC.out _).mono ?_; rintro e w' ⟨rfl, rfl⟩; rw [HL.out]; generalize cnt blB (List.drop j s.data.toList) = M)
          | (go_at_call 29; with_reducible refine (HD.out _).mono ?_; rintro e w' ⟨rfl, rfl⟩; rw [HL.out, HN.out])
          | (go_at_call 36; refine (Tryz.strings_HasPrefix (s.extract j s.size) _ _).mono ?_; rintro e w' ⟨rfl, rfl⟩; rw [HL.out, HB.out]))
        go_ret
        have h0 := H0.out
        have h1 := HP.out
        rw [h0] at h1
        exact ⟨ret_int (by omega), rfl⟩
      · have H0 := Lib.hid (HY hz)
        clear HZ HY
        have hni : ((N : Int) == 0) = false := by rw [beq_eq_false_iff_ne]; omega
        go_wp2_with (first
          | (go_at_call 29; with_reducible refine (HC.out _).mono ?_; rintro e w' ⟨rfl, rfl⟩; rw [HL.out]; generalize cnt blB (List.drop j s.data.toList) = M)
          | (go_at_call 29; with_reducible refine (HD.out _).mono ?_; rintro e w' ⟨rfl, rfl⟩; rw [HL.out, HN.out])
          | (go_at_call 36; refine (Tryz.strings_HasPrefix (s.extract j s.size) _ _).mono ?_; rintro e w' ⟨rfl, rfl⟩; rw [HL.out, HB.out]))
        go_round
        case rel =>
          refine ⟨j + N, by omega, by go_num, ?_⟩
          have h0 := H0.out
          have h1 := HP.out
          rw [h0] at h1
          omega
        case measure => simp [intOf]; omega
end Go.Proofs.YtpedmkdpbdhenaaGreatDoor
