/- The document's version at the beginning of a text. -/
import Derived.Test.YtpedmkdpbdhenaaGreatDoorNb
import Derived.Test.YtpedmkdpbdhenaaGreatDoorMd
namespace Go.Proofs.YtpedmkdpbdhenaaGreatDoor
open Go.RowKit
set_option linter.unusedSimpArgs false
set_option linter.unusedVariables false
theorem digits0_any (s : ByteArray) (hm : s.size ≤ 4194304) (w : World) : Calls Tryz.prog 45 #[.string s, .int .i64 0] w fun e w' => e = .returned (.int .i64 (cnt dgB s.data.toList : Nat)) ∧ w = w' := by
  have h := digits_any s hm 0 (Nat.zero_le _) w
  rw [List.drop_zero] at h
  exact h
theorem digits1_any (s : ByteArray) (hm : s.size ≤ 4194304) (a : Nat) (ha : a + 1 ≤ s.size) (w : World) : Calls Tryz.prog 45 #[.string s, .int .i64 ((a : Int) + 1)] w fun e w' => e = .returned (.int .i64 (cnt dgB (s.data.toList.drop (a + 1)) : Nat)) ∧ w = w' := by
  have h := digits_any s hm (a + 1) ha w
  have e : ((a + 1 : Nat) : Int) = (a : Int) + 1 := by omega
  rw [e] at h
  exact h
theorem digits2_any (s : ByteArray) (hm : s.size ≤ 4194304) (a b : Nat) (ha : a + b + 2 ≤ s.size) (w : World) : Calls Tryz.prog 45 #[.string s, .int .i64 ((a : Int) + (b : Int) + 2)] w fun e w' => e = .returned (.int .i64 (cnt dgB (s.data.toList.drop (a + b + 2)) : Nat)) ∧ w = w' := by
  have h := digits_any s hm (a + b + 2) ha w
  have e : ((a + b + 2 : Nat) : Int) = (a : Int) + (b : Int) + 2 := by omega
  rw [e] at h
  exact h
theorem at_some {s : ByteArray} {k : Nat} (hk : k < s.size) (h : s[k].toNat ≠ 46) : s.data.toList[k]? ≠ some 46 := by
  rw [at_list s k hk]
  intro e
  have e2 : s[k] = 46 := by simpa using e
  exact h (by rw [e2]; rfl)
theorem at_46 {s : ByteArray} {k : Nat} (hk : k < s.size) (h : s[k].toNat = 46) : s.data.toList[k]? = some 46 := by
  rw [at_list s k hk, u8 h (by decide)]
  rfl
theorem at_out {s : ByteArray} {k : Nat} (hk : ¬ k < s.size) : s.data.toList[k]? ≠ some 46 := by
  rw [List.getElem?_eq_none (by rw [len_list]; omega)]
  intro e
  cases e
set_option maxHeartbeats 8000000 in
set_option maxRecDepth 100000 in
theorem version_doc (s : ByteArray) (hm : s.size ≤ 4194304) (w : World) : Calls Tryz.prog 44 #[.string s, .int .i64 0] w fun e w' => e = .returned (.int .i64 (verD s.data.toList : Nat)) ∧ Below w.heap.size w w' := by
  have H0 := Lib.hid (fun W => digits0_any s hm W)
  have hD : verD s.data.toList = verA s.data.toList (cnt dgB s.data.toList) := rfl
  rw [hD]
  have hle := cnt_le dgB s.data.toList
  rw [len_list] at hle
  generalize cnt dgB s.data.toList = a at *
  by_cases h1 : a < s.size
  rotate_left
  · have d1 : decide (s.size ≤ a) = true := by simp; omega
    have HR : RowKit.Hid (verA s.data.toList a = 0) := Lib.hid (by unfold verA; rw [if_pos (at_out h1)])
    clear hD h1
    go_enter Tryz.func44, Tryz.ntmps44
    go_wp2_with (go_at_call 45; with_reducible refine (H0.out _).mono ?_; rintro e w1 ⟨rfl, rfl⟩)
    go_ret
    exact ⟨ret_int (by rw [HR.out]; rfl), Below.refl _ _⟩
  have d1 : decide (s.size ≤ a) = false := by simp; omega
  have hai : (a : Int) < (s.size : Int) := by omega
  by_cases h2 : s[a].toNat = 46
  rotate_left
  · have d2 : ((s[a].toNat : Int) != 46) = true := by simp; omega
    have HR : RowKit.Hid (verA s.data.toList a = 0) := Lib.hid (by unfold verA; rw [if_pos (at_some h1 h2)])
    clear hD h2
    go_enter Tryz.func44, Tryz.ntmps44
    go_wp2_with (go_at_call 45; with_reducible refine (H0.out _).mono ?_; rintro e w1 ⟨rfl, rfl⟩)
    go_ret
    exact ⟨ret_int (by rw [HR.out]; rfl), Below.refl _ _⟩
  have d2 : ((s[a].toNat : Int) != 46) = false := by simp; omega
  have hA : verA s.data.toList a = verB s.data.toList a (cnt dgB (s.data.toList.drop (a + 1))) := by unfold verA; rw [if_neg (fun h => h (at_46 h1 h2))]
  rw [hA]
  have H1 := Lib.hid (fun W => digits1_any s hm a (by omega) W)
  have hle1 := cnt_le dgB (s.data.toList.drop (a + 1))
  rw [List.length_drop, len_list] at hle1
  clear hD hA h2
  generalize cnt dgB (s.data.toList.drop (a + 1)) = b at *
  by_cases h3 : b = 0
  · subst h3
    have HR : RowKit.Hid (verB s.data.toList a 0 = 0) := Lib.hid (by unfold verB; rw [if_pos (.inl rfl)])
    go_enter Tryz.func44, Tryz.ntmps44
    go_wp2_with (first
      | (go_at_call 45; with_reducible refine (H0.out _).mono ?_; rintro e w1 ⟨rfl, rfl⟩)
      | (go_at_call 45; with_reducible refine (H1.out _).mono ?_; rintro e w1 ⟨rfl, rfl⟩))
    go_ret
    exact ⟨ret_int (by rw [HR.out]; rfl), Below.refl _ _⟩
  have d3 : ((b : Int) == 0) = false := by rw [beq_eq_false_iff_ne]; omega
  by_cases h4 : a + 1 + b < s.size
  rotate_left
  · have d4 : decide ((s.size : Int) ≤ (a : Int) + 1 + (b : Int)) = true := by simp; omega
    have d4' : decide (s.size ≤ a + 1 + b) = true := by simp; omega
    have HR : RowKit.Hid (verB s.data.toList a b = 0) := Lib.hid (by unfold verB; rw [if_pos (.inr (at_out h4))])
    clear h3 h4
    go_enter Tryz.func44, Tryz.ntmps44
    go_wp2_with (first
      | (go_at_call 45; with_reducible refine (H0.out _).mono ?_; rintro e w1 ⟨rfl, rfl⟩)
      | (go_at_call 45; with_reducible refine (H1.out _).mono ?_; rintro e w1 ⟨rfl, rfl⟩))
    go_ret
    exact ⟨ret_int (by rw [HR.out]; rfl), Below.refl _ _⟩
  have d4 : decide ((s.size : Int) ≤ (a : Int) + 1 + (b : Int)) = false := by simp; omega
  have d4' : decide (s.size ≤ a + 1 + b) = false := by simp; omega
  have h4i : (a : Int) + 1 + (b : Int) < (s.size : Int) := by omega
  by_cases h5 : s[a + 1 + b].toNat = 46
  rotate_left
  · have d5 : ((s[a + 1 + b].toNat : Int) != 46) = true := by simp; omega
    have HR : RowKit.Hid (verB s.data.toList a b = 0) := Lib.hid (by unfold verB; rw [if_pos (.inr (at_some h4 h5))])
    clear h3 h5
    go_enter Tryz.func44, Tryz.ntmps44
    go_wp2_with (first
      | (go_at_call 45; with_reducible refine (H0.out _).mono ?_; rintro e w1 ⟨rfl, rfl⟩)
      | (go_at_call 45; with_reducible refine (H1.out _).mono ?_; rintro e w1 ⟨rfl, rfl⟩))
    go_ret
    exact ⟨ret_int (by rw [HR.out]; rfl), Below.refl _ _⟩
  have d5 : ((s[a + 1 + b].toNat : Int) != 46) = false := by simp; omega
  have hB : verB s.data.toList a b = verC s.data.toList (a + b + 2 + cnt dgB (s.data.toList.drop (a + b + 2))) := by
    unfold verB
    rw [if_neg]
    rintro (h | h)
    · exact h3 h
    · exact h (at_46 h4 h5)
  rw [hB]
  have H2 := Lib.hid (fun W => digits2_any s hm a b (by omega) W)
  have hle2 := cnt_le dgB (s.data.toList.drop (a + b + 2))
  rw [List.length_drop, len_list] at hle2
  clear hB h5 h3
  generalize cnt dgB (s.data.toList.drop (a + b + 2)) = c at *
  have h6 : (a : Int) + (b : Int) + 2 + (c : Int) ≤ (s.size : Int) := by omega
  have hext : s.extract 0 (a + b + 2 + c) = ofL (s.data.toList.take (a + b + 2 + c)) := by
    apply toList_inj
    rw [take_list, ByteArray.toList_eq]
  have HP := Lib.hid (fun W => refParse_any (s.extract 0 (a + b + 2 + c)) (by rw [ByteArray.size_extract]; omega) W)
  cases ho : Sv.okS (s.extract 0 (a + b + 2 + c))
  · rw [parse_fail ho] at HP
    have HR : RowKit.Hid (verC s.data.toList (a + b + 2 + c) = 0) := Lib.hid (by unfold verC; rw [← hext, ho]; rfl)
    clear ho hext
    go_enter Tryz.func44, Tryz.ntmps44
    go_wp2_with (first
      | (go_at_call 45; with_reducible refine (H0.out _).mono ?_; rintro e w1 ⟨rfl, rfl⟩)
      | (go_at_call 45; with_reducible refine (H1.out _).mono ?_; rintro e w1 ⟨rfl, rfl⟩)
      | (go_at_call 45; with_reducible refine (H2.out _).mono ?_; rintro e w1 ⟨rfl, rfl⟩)
      | (go_at_call 62; refine (HP.out _).mono ?_; rintro e w2 ⟨rfl, hb⟩))
    trace_state
    go_ret
    exact ⟨ret_int (by rw [HR.out]; rfl), hb.alloc hb.size _⟩
  · rw [parse_good ho] at HP
    have HR : RowKit.Hid (verC s.data.toList (a + b + 2 + c) = a + b + 2 + c) := Lib.hid (by unfold verC; rw [← hext, ho]; rfl)
    clear ho hext
    go_enter Tryz.func44, Tryz.ntmps44
    go_wp2_with (first
      | (go_at_call 45; with_reducible refine (H0.out _).mono ?_; rintro e w1 ⟨rfl, rfl⟩)
      | (go_at_call 45; with_reducible refine (H1.out _).mono ?_; rintro e w1 ⟨rfl, rfl⟩)
      | (go_at_call 45; with_reducible refine (H2.out _).mono ?_; rintro e w1 ⟨rfl, rfl⟩)
      | (go_at_call 62; refine (HP.out _).mono ?_; rintro e w2 ⟨rfl, hb⟩))
    go_ret
    exact ⟨ret_int (by rw [HR.out]; omega), hb.alloc hb.size _⟩
end Go.Proofs.YtpedmkdpbdhenaaGreatDoor
