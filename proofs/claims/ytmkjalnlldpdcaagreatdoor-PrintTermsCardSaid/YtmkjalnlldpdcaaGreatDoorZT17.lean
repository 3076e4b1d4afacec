/- Texts in a row: Nb Md Nc Nd. -/
import Derived.Test.YtmkjalnlldpdcaaGreatDoorZT16
import Derived.Test.YtmkjalnlldpdcaaGreatDoorZT8
import Derived.Outline
import Derived.Test.YtmkjalnlldpdcaaGreatDoorZT11
set_option maxHeartbeats 16000000
set_option maxRecDepth 100000
namespace Go.Proofs.YtmkjalnlldpdcaaGreatDoor
open Go.RowKit
set_option linter.unusedSimpArgs false
set_option linter.unusedVariables false
namespace Sv
theorem head_at {l : List UInt8} (h : 0 < l.length) : l.head? = some l[0] := by rw [List.head?_eq_getElem?, List.getElem?_eq_getElem h]
end Sv
theorem data_len (s : ByteArray) : s.data.toList.length = s.size := by simp
theorem data_at (s : ByteArray) (k : Nat) (h : k < s.size) (h2 : k < s.data.toList.length) : s.data.toList[k] = s[k] := by simp; rfl
theorem nonempty {s : ByteArray} (h : 0 < s.size) : s.toList.isEmpty = false := by
 rw [ByteArray.toList_eq]
 cases h : s.data.toList with
 | nil => have : s.size = 0 := by rw [← ByteArray.size_data, ← Array.length_toList, h]; rfl
          omega
 | cons a l => rfl
theorem empty_of {s : ByteArray} (h : s.size = 0) : s = ⟨#[]⟩ := by
 cases s with
 | mk d => congr 1; exact Array.eq_empty_of_size_eq_zero h
namespace Sv
def run (D : List UInt8) : List UInt8 := D.takeWhile isDig
def NumR (D : List UInt8) : Prop := run D ≠ [] ∧ (run D).length ≤ 6 ∧ ¬ (D.head? = some 48 ∧ 1 < (run D).length)
instance (D : List UInt8) : Decidable (NumR D) := by unfold NumR; exact inferInstance
def rv (D : List UInt8) : Int := if NumR D then (val (run D) : Nat) else 0
def rp (i : Nat) (D : List UInt8) : Int := if NumR D then ((i + (run D).length : Nat) : Int) else -1
theorem r_no {D : List UInt8} (h : ¬ NumR D) (i : Nat) : rv D = 0 ∧ rp i D = -1 := by unfold rv rp; rw [if_neg h, if_neg h]; exact ⟨rfl, rfl⟩
theorem r_yes {D : List UInt8} (h : NumR D) (i : Nat) : rv D = (val (run D) : Nat) ∧ rp i D = ((i + (run D).length : Nat) : Int) := by unfold rv rp; rw [if_pos h, if_pos h]; exact ⟨rfl, rfl⟩
theorem run_eq {D : List UInt8} {j : Nat} (h : ∀ c ∈ D.take j, isDig c = true) (hj : j = D.length ∨ ∃ h : j < D.length, isDig D[j] = false) : run D = D.take j := by
 unfold run
 have e : D = D.take j ++ D.drop j := (List.take_append_drop j D).symm
 conv => lhs; rw [e]
 rw [List.takeWhile_append_of_pos h]
 have e2 : (D.drop j).takeWhile isDig = [] := by
  rcases hj with rfl | ⟨hl, hd⟩
  · simp
  · rw [List.drop_eq_getElem_cons hl, List.takeWhile_cons, hd]; rfl
 rw [e2, List.append_nil]
theorem run_ge {D : List UInt8} {j : Nat} (h : ∀ c ∈ D.take j, isDig c = true) (hj : j ≤ D.length) : j ≤ (run D).length := by
 unfold run
 have e : D = D.take j ++ D.drop j := (List.take_append_drop j D).symm
 conv => rhs; rw [e]
 rw [List.takeWhile_append_of_pos h, List.length_append, List.length_take]
 omega
theorem foldl_lt (l : List UInt8) (h : ∀ c ∈ l, isDig c = true) : ∀ a, l.foldl (fun n c => 10 * n + (c.toNat - 48)) a + 1 ≤ (a + 1) * 10 ^ l.length := by
 induction l with
 | nil => intro a; simp
 | cons c l ih =>
  intro a
  have h2 := isDig_yes (h c (by simp))
  have h1 := ih (fun x hx => h x (List.mem_cons_of_mem _ hx)) (10 * a + (c.toNat - 48))
  have h3 : (10 * a + (c.toNat - 48) + 1) * 10 ^ l.length ≤ ((a + 1) * 10) * 10 ^ l.length := Nat.mul_le_mul_right _ (by omega)
  rw [List.length_cons, Nat.pow_succ, Nat.mul_comm (10 ^ l.length) 10, ← Nat.mul_assoc]
  exact Nat.le_trans h1 h3
theorem val_lt (l : List UInt8) (h : ∀ c ∈ l, isDig c = true) : val l + 1 ≤ 10 ^ l.length := by
 have := foldl_lt l h 0
 simpa [val] using this
end Sv
abbrev nr (s : ByteArray) (i : Nat) : Value := .tuple #[.int .i64 (Sv.rv (s.data.toList.drop i)), .int .i64 (Sv.rp i (s.data.toList.drop i))]
theorem number_any (s : ByteArray) (i : Nat) (hi : i ≤ s.size) (hm : s.size ≤ 4194304) (w : World) : Calls Tryz.prog 208 #[.string s, .int .i64 i] w fun e w' => e = .returned (nr s i) ∧ w = w' := by
 have HL : RowKit.Hid ((s.data.toList.drop i).length = s.size - i) := Hd (by simp)
 have HE : RowKit.Hid (∀ k (h : k < s.size) (h1 : i ≤ k) (h2 : k - i < (s.data.toList.drop i).length), (s.data.toList.drop i)[k - i] = s[k]) := Hd (fun k h h1 h2 => by
  rw [List.getElem_drop]
  have e : i + (k - i) = k := by omega
  have hk : k < s.data.toList.length := by rw [data_len]; exact h
  rw [← data_at s k h hk]
  congr 1)
 have HN : RowKit.Hid (nr s i = .tuple #[.int .i64 (Sv.rv (s.data.toList.drop i)), .int .i64 (Sv.rp i (s.data.toList.drop i))]) := Hd rfl
 generalize hD : s.data.toList.drop i = D at *
 generalize hnr : nr s i = NR at *
 clear hnr hD
 go_enter Tryz.func208, Tryz.ntmps208
 go_wp2
 go_loop [6, 7] (fun n q => ∃ k : Nat, i ≤ k ∧ k ≤ s.size ∧ k ≤ i + 7 ∧ q = .int .i64 k ∧ n = .int .i64 (Sv.val (D.take (k - i)) : Nat) ∧ (∀ c ∈ D.take (k - i), Sv.isDig c = true)) (fun _ q => s.size - (intOf q).toNat)
 case atStart => exact ⟨i, Nat.le_refl _, hi, by omega, rfl, by simp [Sv.val_nil], by simp⟩
 case round =>
  obtain ⟨k, hik, hk, hk7, rfl, rfl, hd⟩ := hrel
  have HD := Hd hd
  clear hd
  have HVL : RowKit.Hid (Sv.val (D.take (k - i)) + 1 ≤ 10 ^ (k - i)) := Hd (by
   have h := Sv.val_lt _ HD.out
   rw [List.length_take, HL.out, Nat.min_eq_left (by omega)] at h
   exact h)
  have HVB : RowKit.Hid (Sv.val (D.take (k - i)) < 10000000) := Hd (by
   have h := HVL.out
   have h2 : 10 ^ (k - i) ≤ 10 ^ 7 := Nat.pow_le_pow_right (by omega) (by omega)
   omega)
  by_cases hlt : k < s.size
  · by_cases h7 : k < i + 7
    · have d2 : decide ((k : Int) < (i : Int) + 7) = true := by simp; omega
      have hcl : s[k].toNat < 256 := s[k].toNat_lt
      rcases Bool.eq_false_or_eq_true (Sv.isDig s[k]) with g | g
      · obtain ⟨g1, g2⟩ := Sv.isDig_yes g
        have G := Hd g
        clear g
        have c1 : decide (48 ≤ (s[k].toNat : Int)) = true := by simp; omega
        have c2 : decide ((s[k].toNat : Int) ≤ 57) = true := by simp; omega
        have HT : RowKit.Hid (D.take (k + 1 - i) = D.take (k - i) ++ [s[k]]) := Hd (by
         have hl : k - i < D.length := by rw [HL.out]; omega
         have e : k + 1 - i = (k - i) + 1 := by omega
         rw [e, Sv.take_snoc _ _ hl, HE.out k hlt hik hl])
        have HV : RowKit.Hid (Sv.val (D.take (k + 1 - i)) = 10 * Sv.val (D.take (k - i)) + (s[k].toNat - 48)) := Hd (by rw [HT.out, Sv.val_snoc])
        have hvb := HVB.out
        generalize hvv : Sv.val (D.take (k - i)) = v at *
        clear hvv HVL HVB
        go_wp2
        go_round
        case rel =>
         refine ⟨k + 1, by omega, by omega, by omega, by go_num, ?_, ?_⟩
         · rw [HV.out]; congr 1; omega
         · intro c hc
           rw [HT.out] at hc
           rcases List.mem_append.1 hc with hc | hc
           · exact HD.out c hc
           · rw [List.mem_singleton.1 hc]; exact G.out
        case measure => simp [intOf]; omega
      · have HRUN : RowKit.Hid (Sv.run D = D.take (k - i)) := Hd (Sv.run_eq HD.out (.inr ⟨by rw [HL.out]; omega, by rw [HE.out k hlt hik]; exact g⟩))
        rcases Sv.isDig_no g with g1 | ⟨g1, g2⟩
        · clear g
          have c1 : decide (48 ≤ (s[k].toNat : Int)) = false := by simp; omega
          have HRL : RowKit.Hid ((Sv.run D).length = k - i) := Hd (by rw [HRUN.out, List.length_take, HL.out]; omega)
          have d6 : decide ((i : Int) + 6 < (k : Int)) = false := by simp; omega
          by_cases hki : k = i
          · have e0 : ((k : Int) == (i : Int)) = true := by simp; omega
            have HKI := Hd hki
            clear hki
            go_wp2
            go_ret2
            have hno := Sv.r_no (D := D) (fun h => h.1 (List.length_eq_zero_iff.1 (by rw [HRL.out]; have := HKI.out; omega))) i
            exact ⟨by rw [HN.out, hno.1, hno.2]; rfl, rfl⟩
          · have e0 : ((k : Int) == (i : Int)) = false := by simp; omega
            have HKI := Hd hki
            clear hki
            have HNE : RowKit.Hid (Sv.run D ≠ []) := Hd (fun h => by have h2 := HRL.out; rw [h] at h2; simp at h2; have := HKI.out; omega)
            by_cases hk1 : k ≤ i + 1
            · have d1 : decide ((i : Int) + 1 < (k : Int)) = false := by simp; omega
              have HK1 := Hd hk1
              clear hk1
              go_wp2
              go_ret2
              have hyes := Sv.r_yes (D := D) ⟨HNE.out, by rw [HRL.out]; have := HK1.out; omega, fun h => by have h2 := h.2; rw [HRL.out] at h2; have := HK1.out; omega⟩ i
              have hp : Sv.rp i D = (k : Int) := by rw [hyes.2, HRL.out]; omega
              have hv : Sv.rv D = (Sv.val (D.take (k - i)) : Nat) := by rw [hyes.1, HRUN.out]
              exact ⟨by rw [HN.out, hp, hv]; rfl, rfl⟩
            · have d1 : decide ((i : Int) + 1 < (k : Int)) = true := by simp; omega
              have HK1 := Hd hk1
              have his : i < s.size := by omega
              have HH : RowKit.Hid (D.head? = some s[i]) := Hd (by
               have hl : 0 < D.length := by rw [HL.out]; omega
               have h := HE.out i his (Nat.le_refl _) Q68
               rw [Sv.head_at hl, ← h]
               congr 2
               omega)
              clear hk1
              by_cases hz : s[i].toNat = 48
              · have e8 : ((s[i].toNat : Int) == 48) = true := by rw [hz]; rfl
                have HZ := Hd hz
                clear hz
                go_wp2
                go_ret2
                have hno := Sv.r_no (D := D) (fun h => h.2.2 ⟨by rw [HH.out]; congr 1; exact UInt8.toNat_inj.1 HZ.out, by rw [HRL.out]; have := HK1.out; omega⟩) i
                exact ⟨by rw [HN.out, hno.1, hno.2]; rfl, rfl⟩
              · have e8 : ((s[i].toNat : Int) == 48) = false := by simp; omega
                have HZ := Hd hz
                clear hz
                go_wp2
                go_ret2
                have hyes := Sv.r_yes (D := D) ⟨HNE.out, by rw [HRL.out]; omega, fun h => by have h2 := h.1; rw [HH.out] at h2; exact HZ.out (by rw [Option.some.inj h2]; rfl)⟩ i
                have hp : Sv.rp i D = (k : Int) := by rw [hyes.2, HRL.out]; omega
                have hv : Sv.rv D = (Sv.val (D.take (k - i)) : Nat) := by rw [hyes.1, HRUN.out]
                exact ⟨by rw [HN.out, hp, hv]; rfl, rfl⟩
        · clear g
          have c1 : decide (48 ≤ (s[k].toNat : Int)) = true := by simp; omega
          have c2 : decide ((s[k].toNat : Int) ≤ 57) = false := by simp; omega
          have HRL : RowKit.Hid ((Sv.run D).length = k - i) := Hd (by rw [HRUN.out, List.length_take, HL.out]; omega)
          have d6 : decide ((i : Int) + 6 < (k : Int)) = false := by simp; omega
          by_cases hki : k = i
          · have e0 : ((k : Int) == (i : Int)) = true := by simp; omega
            have HKI := Hd hki
            clear hki
            go_wp2
            go_ret2
            have hno := Sv.r_no (D := D) (fun h => h.1 (List.length_eq_zero_iff.1 (by rw [HRL.out]; have := HKI.out; omega))) i
            exact ⟨by rw [HN.out, hno.1, hno.2]; rfl, rfl⟩
          · have e0 : ((k : Int) == (i : Int)) = false := by simp; omega
            have HKI := Hd hki
            clear hki
            have HNE : RowKit.Hid (Sv.run D ≠ []) := Hd (fun h => by have h2 := HRL.out; rw [h] at h2; simp at h2; have := HKI.out; omega)
            by_cases hk1 : k ≤ i + 1
            · have d1 : decide ((i : Int) + 1 < (k : Int)) = false := by simp; omega
              have HK1 := Hd hk1
              clear hk1
              go_wp2
              go_ret2
              have hyes := Sv.r_yes (D := D) ⟨HNE.out, by rw [HRL.out]; have := HK1.out; omega, fun h => by have h2 := h.2; rw [HRL.out] at h2; have := HK1.out; omega⟩ i
              have hp : Sv.rp i D = (k : Int) := by rw [hyes.2, HRL.out]; omega
              have hv : Sv.rv D = (Sv.val (D.take (k - i)) : Nat) := by rw [hyes.1, HRUN.out]
              exact ⟨by rw [HN.out, hp, hv]; rfl, rfl⟩
            · have d1 : decide ((i : Int) + 1 < (k : Int)) = true := by simp; omega
              have HK1 := Hd hk1
              have his : i < s.size := by omega
              have HH : RowKit.Hid (D.head? = some s[i]) := Hd (by
               have hl : 0 < D.length := by rw [HL.out]; omega
               have h := HE.out i his (Nat.le_refl _) Q68
               rw [Sv.head_at hl, ← h]
               congr 2
               omega)
              clear hk1
              by_cases hz : s[i].toNat = 48
              · have e8 : ((s[i].toNat : Int) == 48) = true := by rw [hz]; rfl
                have HZ := Hd hz
                clear hz
                go_wp2
                go_ret2
                have hno := Sv.r_no (D := D) (fun h => h.2.2 ⟨by rw [HH.out]; congr 1; exact UInt8.toNat_inj.1 HZ.out, by rw [HRL.out]; have := HK1.out; omega⟩) i
                exact ⟨by rw [HN.out, hno.1, hno.2]; rfl, rfl⟩
              · have e8 : ((s[i].toNat : Int) == 48) = false := by simp; omega
                have HZ := Hd hz
                clear hz
                go_wp2
                go_ret2
                have hyes := Sv.r_yes (D := D) ⟨HNE.out, by rw [HRL.out]; omega, fun h => by have h2 := h.1; rw [HH.out] at h2; exact HZ.out (by rw [Option.some.inj h2]; rfl)⟩ i
                have hp : Sv.rp i D = (k : Int) := by rw [hyes.2, HRL.out]; omega
                have hv : Sv.rv D = (Sv.val (D.take (k - i)) : Nat) := by rw [hyes.1, HRUN.out]
                exact ⟨by rw [HN.out, hp, hv]; rfl, rfl⟩
    · have d2 : decide ((k : Int) < (i : Int) + 7) = false := by simp; omega
      have d6 : decide ((i : Int) + 6 < (k : Int)) = true := by simp; omega
      have e0 : ((k : Int) == (i : Int)) = false := by simp; omega
      have H7 := Hd h7
      clear h7
      go_wp2
      go_ret2
      have hno := Sv.r_no (D := D) (fun h => by
       have h1 := Sv.run_ge (D := D) (j := k - i) HD.out Q68
       have h2 := h.2.1
       have := H7.out
       omega) i
      exact ⟨by rw [HN.out, hno.1, hno.2]; rfl, rfl⟩
  · have HRUN : RowKit.Hid (Sv.run D = D.take (k - i)) := Hd (Sv.run_eq HD.out (.inl Q68))
    by_cases h7 : k < i + 7
    · have HX := Hd h7
      have HRL : RowKit.Hid ((Sv.run D).length = k - i) := Hd (by rw [HRUN.out, List.length_take, HL.out]; omega)
      have d6 : decide ((i : Int) + 6 < (k : Int)) = false := by simp; omega
      by_cases hki : k = i
      · have e0 : ((k : Int) == (i : Int)) = true := by simp; omega
        have HKI := Hd hki
        clear hki
        go_wp2
        go_ret2
        have hno := Sv.r_no (D := D) (fun h => h.1 (List.length_eq_zero_iff.1 (by rw [HRL.out]; have := HKI.out; omega))) i
        exact ⟨by rw [HN.out, hno.1, hno.2]; rfl, rfl⟩
      · have e0 : ((k : Int) == (i : Int)) = false := by simp; omega
        have HKI := Hd hki
        clear hki
        have HNE : RowKit.Hid (Sv.run D ≠ []) := Hd (fun h => by have h2 := HRL.out; rw [h] at h2; simp at h2; have := HKI.out; omega)
        by_cases hk1 : k ≤ i + 1
        · have d1 : decide ((i : Int) + 1 < (k : Int)) = false := by simp; omega
          have HK1 := Hd hk1
          clear hk1
          go_wp2
          go_ret2
          have hyes := Sv.r_yes (D := D) ⟨HNE.out, by rw [HRL.out]; have := HK1.out; omega, fun h => by have h2 := h.2; rw [HRL.out] at h2; have := HK1.out; omega⟩ i
          have hp : Sv.rp i D = (k : Int) := by rw [hyes.2, HRL.out]; omega
          have hv : Sv.rv D = (Sv.val (D.take (k - i)) : Nat) := by rw [hyes.1, HRUN.out]
          exact ⟨by rw [HN.out, hp, hv]; rfl, rfl⟩
        · have d1 : decide ((i : Int) + 1 < (k : Int)) = true := by simp; omega
          have HK1 := Hd hk1
          have his : i < s.size := by omega
          have HH : RowKit.Hid (D.head? = some s[i]) := Hd (by
           have hl : 0 < D.length := by rw [HL.out]; omega
           have h := HE.out i his (Nat.le_refl _) Q68
           rw [Sv.head_at hl, ← h]
           congr 2
           omega)
          clear hk1
          by_cases hz : s[i].toNat = 48
          · have e8 : ((s[i].toNat : Int) == 48) = true := by rw [hz]; rfl
            have HZ := Hd hz
            clear hz
            go_wp2
            go_ret2
            have hno := Sv.r_no (D := D) (fun h => h.2.2 ⟨by rw [HH.out]; congr 1; exact UInt8.toNat_inj.1 HZ.out, by rw [HRL.out]; have := HK1.out; omega⟩) i
            exact ⟨by rw [HN.out, hno.1, hno.2]; rfl, rfl⟩
          · have e8 : ((s[i].toNat : Int) == 48) = false := by simp; omega
            have HZ := Hd hz
            clear hz
            go_wp2
            go_ret2
            have hyes := Sv.r_yes (D := D) ⟨HNE.out, by rw [HRL.out]; omega, fun h => by have h2 := h.1; rw [HH.out] at h2; exact HZ.out (by rw [Option.some.inj h2]; rfl)⟩ i
            have hp : Sv.rp i D = (k : Int) := by rw [hyes.2, HRL.out]; omega
            have hv : Sv.rv D = (Sv.val (D.take (k - i)) : Nat) := by rw [hyes.1, HRUN.out]
            exact ⟨by rw [HN.out, hp, hv]; rfl, rfl⟩
    · have d6 : decide ((i : Int) + 6 < (k : Int)) = true := by simp; omega
      have e0 : ((k : Int) == (i : Int)) = false := by simp; omega
      have H7 := Hd h7
      clear h7
      go_wp2
      go_ret2
      have hno := Sv.r_no (D := D) (fun h => by
       have h1 := Sv.run_ge (D := D) (j := k - i) HD.out Q68
       have h2 := h.2.1
       have := H7.out
       omega) i
      exact ⟨by rw [HN.out, hno.1, hno.2]; rfl, rfl⟩
namespace Sv
theorem not_dig46 : isDig 46 = false := by decide
theorem len_six {T : List UInt8} (h : NumP T) : T.length ≤ 6 := by
 obtain ⟨h1, h2, h3, h4⟩ := h
 cases T with
 | nil => simp
 | cons c l =>
  by_cases hl : l.length = 0
  · simp [hl]
  · have hc : c ≠ 48 := fun e => h2 ⟨by simp [e], by simp; omega⟩
    have hd := isDig_yes (h3 c (by simp))
    have hn : c.toNat ≠ 48 := fun e => hc (UInt8.toNat_inj.1 e)
    have h5 := foldl_le l (10 * 0 + (c.toNat - 48))
    have h6 : val (c :: l) = l.foldl (fun n c => 10 * n + (c.toNat - 48)) (10 * 0 + (c.toNat - 48)) := rfl
    by_cases h7 : l.length ≤ 5
    · simp; omega
    · have h8 : 10 ^ 6 ≤ 10 ^ l.length := Nat.pow_le_pow_right (by omega) (by omega)
      have h9 : 1 * 10 ^ l.length ≤ (10 * 0 + (c.toNat - 48)) * 10 ^ l.length := Nat.mul_le_mul_right _ (by omega)
      omega
theorem run_self {T : List UInt8} (h : ∀ c ∈ T, isDig c = true) : run T = T := by
 have := run_eq (D := T) (j := T.length) (by simpa using h) (.inl rfl)
 simpa using this
theorem run_take (X : List UInt8) : run X = X.take (run X).length := List.prefix_iff_eq_take.1 (List.takeWhile_prefix isDig)
theorem run_le (X : List UInt8) : (run X).length ≤ X.length := (List.takeWhile_prefix (l := X) isDig).length_le
theorem run_dig {X : List UInt8} : ∀ c ∈ run X, isDig c = true := fun c hc => by
 unfold run at hc
 induction X with
 | nil => cases hc
 | cons x l ih =>
  rw [List.takeWhile_cons] at hc
  cases hx : isDig x with
  | false => rw [hx] at hc; cases hc
  | true =>
   rw [hx] at hc
   rcases List.mem_cons.1 hc with rfl | hc
   · exact hx
   · exact ih hc
theorem head_take {X : List UInt8} {j : Nat} (h : 0 < j) : (X.take j).head? = X.head? := by
 cases X with
 | nil => simp
 | cons c l => cases j with
  | zero => omega
  | succ j => rfl
theorem numR_of {X : List UInt8} {j : Nat} (hj : j ≤ X.length) (h : NumP (X.take j)) (hr : run X = X.take j) : NumR X := by
 have h6 := len_six h
 obtain ⟨h1, h2, h3, h4⟩ := h
 have hp : 0 < j := Nat.pos_of_ne_zero fun e => h1 (by rw [e]; rfl)
 exact ⟨by rw [hr]; exact h1, by rw [hr]; exact h6, by rw [hr]; rw [head_take hp] at h2; exact h2⟩
theorem numP_of {X : List UInt8} (h : NumR X) : NumP (run X) := by
 obtain ⟨h1, h2, h3⟩ := h
 have hp : 0 < (run X).length := List.length_pos_iff.2 h1
 refine ⟨h1, fun q => h3 ⟨?_, q.2⟩, run_dig, ?_⟩
 · have := q.1; rw [run_take X, head_take hp] at this; exact this
 · have h5 := val_lt (run X) run_dig
   have h6 : 10 ^ (run X).length ≤ 10 ^ 6 := Nat.pow_le_pow_right (by omega) h2
   omega
theorem ext_data (s : ByteArray) (a b : Nat) : (s.extract a b).data.toList = (s.data.toList.drop a).take (b - a) := by
 rw [ByteArray.data_extract, Array.toList_extract, List.extract_eq_take_drop]
theorem cut_no {s : ByteArray} {c : UInt8} (h : Lib.indexByte s.data.toList c = -1) : cutS s c = (s, ⟨#[]⟩, false) := by unfold cutS; rw [if_pos h]
theorem cut_at {s : ByteArray} {c : UInt8} {j : Nat} (h : Lib.indexByte s.data.toList c = j) : (cutS s c).1.data.toList = s.data.toList.take j ∧ (cutS s c).2.1.data.toList = s.data.toList.drop (j + 1) ∧ (cutS s c).2.2 = true := by
 have hn : ¬ Lib.indexByte s.data.toList c = -1 := by omega
 unfold cutS
 rw [if_neg hn, h]
 refine ⟨?_, ?_, rfl⟩
 · show (s.extract 0 ((j : Int).toNat)).data.toList = _
   rw [ext_data]; simp
 · show (s.extract ((j : Int).toNat + 1) s.size).data.toList = _
   rw [ext_data, List.take_of_length_le (by simp)]
   simp
theorem index_cases (l : List UInt8) (c : UInt8) : Lib.indexByte l c = -1 ∨ ∃ j : Nat, Lib.indexByte l c = j := by
 have := Lib.indexByte_ge l c
 by_cases h : Lib.indexByte l c = -1
 · exact .inl h
 · exact .inr ⟨(Lib.indexByte l c).toNat, by omega⟩
theorem num_at {s : ByteArray} {j : Nat} (h : Lib.indexByte s.data.toList 46 = j) (hn : NumP (s.data.toList.take j)) : NumR s.data.toList ∧ run s.data.toList = s.data.toList.take j := by
 obtain ⟨h1, h2⟩ := Lib.indexByte_some h
 have hl : j < s.data.toList.length := (List.getElem?_eq_some_iff.1 h1).1
 have e : s.data.toList[j] = 46 := (List.getElem?_eq_some_iff.1 h1).2
 have hr : run s.data.toList = s.data.toList.take j := run_eq hn.2.2.1 (.inr ⟨hl, by rw [e]; exact not_dig46⟩)
 exact ⟨numR_of (Nat.le_of_lt hl) hn hr, hr⟩
theorem stepA {s : ByteArray} (h : ¬ (NumR s.data.toList ∧ s.data.toList[(run s.data.toList).length]? = some 46)) : (nb s && m s) = false := by
 rcases index_cases s.data.toList 46 with hi | ⟨j, hi⟩
 · have : m s = false := by unfold m; rw [cut_no hi]
   rw [this]; simp
 · have hc := cut_at hi
   cases hb : nb s with
   | false => rfl
   | true =>
    have hn : NumP (s.data.toList.take j) := by
     unfold nb t at hb
     rw [hc.1] at hb
     exact of_decide_eq_true hb
    obtain ⟨h1, h2⟩ := num_at hi hn
    obtain ⟨g1, _⟩ := Lib.indexByte_some hi
    have hl : j < s.data.toList.length := (List.getElem?_eq_some_iff.1 g1).1
    exact absurd ⟨h1, by rw [h2, List.length_take, Nat.min_eq_left (by omega)]; exact g1⟩ h
theorem stepB {s : ByteArray} (h : NumR s.data.toList) (h2 : s.data.toList[(run s.data.toList).length]? = some 46) : nb s = true ∧ m s = true ∧ nv s = val (run s.data.toList) ∧ (r s).data.toList = s.data.toList.drop ((run s.data.toList).length + 1) := by
 rcases index_cases s.data.toList 46 with hi | ⟨j, hi⟩
 · exact absurd h2 (Lib.indexByte_none hi _)
 · obtain ⟨g1, g2⟩ := Lib.indexByte_some hi
   have hj : j = (run s.data.toList).length := by
    rcases Nat.lt_trichotomy j (run s.data.toList).length with hlt | rfl | hlt
    · exfalso
      have hm : (run s.data.toList)[j] ∈ run s.data.toList := List.getElem_mem hlt
      have hd := run_dig _ hm
      have e : (run s.data.toList)[j]? = s.data.toList[j]? := by
       conv => lhs; rw [run_take s.data.toList]
       rw [List.getElem?_take, if_pos hlt]
      rw [g1, List.getElem?_eq_getElem hlt] at e
      rw [Option.some.inj e, not_dig46] at hd
      cases hd
    · rfl
    · exact absurd h2 (g2 _ hlt)
   have hc := cut_at hi
   have hT : (t s).data.toList = run s.data.toList := by unfold t; rw [hc.1, hj, ← run_take]
   have hy := num_yes (numP_of h)
   refine ⟨by unfold nb; rw [hT, hy.1], by unfold m; exact hc.2.2, by unfold nv; rw [hT, hy.2], by unfold r; rw [hc.2.1, hj]⟩
theorem lastA {s : ByteArray} (h : ¬ (NumR s.data.toList ∧ (run s.data.toList).length = s.data.toList.length)) : (nb s && !m s) = false := by
 rcases index_cases s.data.toList 46 with hi | ⟨j, hi⟩
 · cases hb : nb s with
   | false => rfl
   | true =>
    have ht : t s = s := by unfold t; rw [cut_no hi]
    have hn : NumP s.data.toList := by
     unfold nb at hb
     rw [ht] at hb
     exact of_decide_eq_true hb
    have hr := run_self hn.2.2.1
    exact absurd ⟨numR_of (j := s.data.toList.length) (Nat.le_refl _) (by rw [List.take_length]; exact hn) (by rw [List.take_length]; exact hr), by rw [hr]⟩ h
 · have : m s = true := by unfold m; exact (cut_at hi).2.2
   rw [this]; simp
theorem lastB {s : ByteArray} (h : NumR s.data.toList) (h2 : (run s.data.toList).length = s.data.toList.length) : nb s = true ∧ m s = false ∧ nv s = val (run s.data.toList) := by
 have hr : run s.data.toList = s.data.toList := by
  have := run_take s.data.toList
  rw [h2, List.take_length] at this
  exact this
 rcases index_cases s.data.toList 46 with hi | ⟨j, hi⟩
 · have ht : t s = s := by unfold t; rw [cut_no hi]
   have hy := num_yes (numP_of h)
   rw [hr] at hy
   exact ⟨by unfold nb; rw [ht, hy.1], by unfold m; rw [cut_no hi], by unfold nv; rw [ht, hy.2, hr]⟩
 · exfalso
   obtain ⟨g1, _⟩ := Lib.indexByte_some hi
   have hm := List.mem_of_getElem? g1
   rw [← hr] at hm
   have := run_dig _ hm
   rw [not_dig46] at this
   cases this
end Sv
theorem num_bad (s : ByteArray) (i : Nat) (hi : i ≤ s.size) (hm : s.size ≤ 4194304) (h : ¬ Sv.NumR (s.data.toList.drop i)) (w : World) : Calls Tryz.prog 208 #[.string s, .int .i64 i] w fun e w' => e = .returned (.tuple #[.int .i64 0, .int .i64 (-1)]) ∧ w = w' :=
 (number_any s i hi hm w).mono fun e w' ⟨he, hw⟩ => ⟨by rw [he, nr, (Sv.r_no h i).1, (Sv.r_no h i).2], hw⟩
theorem num_good (s : ByteArray) (i k v : Nat) (hi : i ≤ s.size) (hm : s.size ≤ 4194304) (h : Sv.NumR (s.data.toList.drop i)) (hk : i + (Sv.run (s.data.toList.drop i)).length = k) (hv : Sv.val (Sv.run (s.data.toList.drop i)) = v) (w : World) : Calls Tryz.prog 208 #[.string s, .int .i64 i] w fun e w' => e = .returned (.tuple #[.int .i64 (v : Nat), .int .i64 (k : Nat)]) ∧ w = w' :=
 (number_any s i hi hm w).mono fun e w' ⟨he, hw⟩ => ⟨by rw [he, nr, (Sv.r_yes h i).1, (Sv.r_yes h i).2, hk, hv], hw⟩
namespace Sv
theorem okA {s : ByteArray} (h : (nb s && m s) = false) : okS s = false := by unfold okS; rw [h]; rfl
theorem okB {s : ByteArray} (h0 : nb s = true) (h1 : m s = true) (h : (nb (r s) && m (r s)) = false) : okS s = false := by
 unfold okS; rw [h0, h1]
 cases hb : nb (r s) with
 | false => rfl
 | true => rw [hb] at h; simp at h; rw [h]; rfl
theorem okC {s : ByteArray} (h0 : nb s = true) (h1 : m s = true) (h2 : nb (r s) = true) (h3 : m (r s) = true) : okS s = (nb (r (r s)) && !m (r (r s))) := by
 unfold okS; rw [h0, h1, h2, h3]; rfl
end Sv
theorem refParse_any (s : ByteArray) (hm : s.size ≤ 4194304) (w : World) : Calls Tryz.prog 161 #[.string s] w fun e w' => e = .returned (nxS (Sv.parseS s)) ∧ Below w.heap.size w w' := by
 have hb1 := hb_new w (.cells #[.int .i64 0, .int .i64 0, .int .i64 0] 52)
 have q0 := hb_at hb1 0 rfl
 have q1 := hb_at hb1 1 rfl
 have q2 := hb_at hb1 2 rfl
 have g0 := hb_free hb1 0
 have g1 := hb_free hb1 1
 have g2 := hb_free hb1 2
 clear hb1
 have HL : RowKit.Hid (s.data.toList.length = s.size) := Hd (data_len s)
 have HQ : RowKit.Hid (∀ k (h : k < s.size), s.data.toList[k]? = some s[k]) := Hd (fun k h => by
  have hk : k < s.data.toList.length := by rw [data_len]; exact h
  rw [List.getElem?_eq_getElem hk, data_at s k h hk])
 have hd0 : s.data.toList.drop 0 = s.data.toList := rfl
 have HD0 := Hd hd0
 clear hd0
 have X0 : RowKit.Hid (s.data.toList = s.data.toList.drop 0) := Hd rfl
 by_cases hn0 : Sv.NumR (s.data.toList.drop 0)
 rotate_left
 · have HA : RowKit.Hid (¬ (Sv.NumR s.data.toList ∧ s.data.toList[(Sv.run s.data.toList).length]? = some 46)) := Hd (by rw [X0.out]; exact fun h => hn0 h.1)
   have C0 : RowKit.Hid (∀ w, Calls Tryz.prog 208 #[.string s, .int .i64 0] w fun e w' => e = .returned (.tuple #[.int .i64 0, .int .i64 (-1)]) ∧ w = w') := Hd (fun w => by have h := num_bad s 0 (by omega) hm hn0 w; rwa [show ((0 : Nat) : Int) = 0 from by omega] at h)
   clear hn0
   go_enter Tryz.func161, Tryz.ntmps161
   go_wp2_with (first | (go_at_call 208; ((with_reducible refine (C0.out _).mono ?_); rintro e w1 ⟨rfl, rfl⟩)))
   have ok : Sv.okS s = false := Sv.okA (Sv.stepA HA.out)
   exact bodyPost_ret (v := .tuple #[.agg #[.int .i64 0, .int .i64 0, .int .i64 0], .int .i64 10]) Q48 rfl ⟨by rw [parse_fail ok]; rfl, below_alloc w _⟩
 obtain ⟨k0, hk0⟩ : ∃ k, 0 + (Sv.run (s.data.toList.drop 0)).length = k := ⟨_, rfl⟩
 obtain ⟨v0, hv0⟩ : ∃ v, Sv.val (Sv.run (s.data.toList.drop 0)) = v := ⟨_, rfl⟩
 have C0 : RowKit.Hid (∀ w, Calls Tryz.prog 208 #[.string s, .int .i64 0] w fun e w' => e = .returned (.tuple #[.int .i64 (v0 : Nat), .int .i64 (k0 : Nat)]) ∧ w = w') := Hd (fun w => by have h := num_good s 0 k0 v0 (by omega) hm hn0 hk0 hv0 w; rwa [show ((0 : Nat) : Int) = 0 from by omega] at h)
 have HN0 := Hd hn0
 have HV0 := Hd hv0
 have HK0 := Hd hk0
 have hle0 : k0 ≤ s.size := by have h := Sv.run_le (s.data.toList.drop 0); rw [List.length_drop, HL.out] at h; omega
 clear hn0 hv0 hk0
 by_cases hlt0 : k0 < s.size
 rotate_left
 · have HA : RowKit.Hid (¬ (Sv.NumR s.data.toList ∧ s.data.toList[(Sv.run s.data.toList).length]? = some 46)) := Hd (by
    rw [X0.out]
    intro h
    have h2 := h.2
    rw [List.getElem?_drop, HK0.out, List.getElem?_eq_none Q68] at h2
    cases h2)
   have d0 : decide ((s.size : Int) ≤ (k0 : Int)) = true := by simp; omega
   go_enter Tryz.func161, Tryz.ntmps161
   go_wp2_with (first | (go_at_call 208; ((with_reducible refine (C0.out _).mono ?_); rintro e w1 ⟨rfl, rfl⟩)))
   have ok : Sv.okS s = false := Sv.okA (Sv.stepA HA.out)
   exact bodyPost_ret (v := .tuple #[.agg #[.int .i64 0, .int .i64 0, .int .i64 0], .int .i64 10]) Q48 rfl ⟨by rw [parse_fail ok]; rfl, below_alloc w _⟩
 by_cases hp0 : s[k0].toNat = 46
 rotate_left
 · have HA : RowKit.Hid (¬ (Sv.NumR s.data.toList ∧ s.data.toList[(Sv.run s.data.toList).length]? = some 46)) := Hd (by
    rw [X0.out]
    intro h
    have h2 := h.2
    rw [List.getElem?_drop, HK0.out, HQ.out k0 hlt0] at h2
    exact hp0 (by rw [Option.some.inj h2]; rfl))
   have d0 : decide ((s.size : Int) ≤ (k0 : Int)) = false := by simp; omega
   have p0 : ((s[k0].toNat : Int) != 46) = true := by simp; omega
   clear hp0
   go_enter Tryz.func161, Tryz.ntmps161
   go_wp2_with (first | (go_at_call 208; ((with_reducible refine (C0.out _).mono ?_); rintro e w1 ⟨rfl, rfl⟩)))
   have ok : Sv.okS s = false := Sv.okA (Sv.stepA HA.out)
   exact bodyPost_ret (v := .tuple #[.agg #[.int .i64 0, .int .i64 0, .int .i64 0], .int .i64 10]) Q48 rfl ⟨by rw [parse_fail ok]; rfl, below_alloc w _⟩
 have P0 : RowKit.Hid (s.data.toList[k0]? = some 46) := Hd (by rw [HQ.out k0 hlt0]; congr 1; exact UInt8.toNat_inj.1 hp0)
 have d0 : decide ((s.size : Int) ≤ (k0 : Int)) = false := by simp; omega
 have p0 : ((s[k0].toNat : Int) != 46) = false := by rw [hp0]; rfl
 clear hp0
 have HS0 : RowKit.Hid (_ ∧ _ ∧ _ ∧ _) := Hd (Sv.stepB (s := s) (by rw [X0.out]; exact HN0.out) (by rw [X0.out, List.getElem?_drop, HK0.out]; exact P0.out))
 have B0 := Hd HS0.out.1
 have M0 := Hd HS0.out.2.1
 have N0 : RowKit.Hid (Sv.nv s = v0) := Hd (by rw [HS0.out.2.2.1, X0.out]; exact HV0.out)
 have X1 : RowKit.Hid ((Sv.r s).data.toList = s.data.toList.drop (k0 + 1)) := Hd (by rw [HS0.out.2.2.2, X0.out, List.drop_drop, ← HK0.out]; rfl)
 by_cases hn1 : Sv.NumR (s.data.toList.drop (k0 + 1))
 rotate_left
 · have HA : RowKit.Hid (¬ (Sv.NumR (Sv.r s).data.toList ∧ (Sv.r s).data.toList[(Sv.run (Sv.r s).data.toList).length]? = some 46)) := Hd (by rw [X1.out]; exact fun h => hn1 h.1)
   have C1 : RowKit.Hid (∀ w, Calls Tryz.prog 208 #[.string s, .int .i64 ((k0 : Int) + 1)] w fun e w' => e = .returned (.tuple #[.int .i64 0, .int .i64 (-1)]) ∧ w = w') := Hd (fun w => by have h := num_bad s (k0 + 1) (by omega) hm hn1 w; rwa [show (((k0 + 1) : Nat) : Int) = ((k0 : Int) + 1) from by omega] at h)
   clear hn1
   go_enter Tryz.func161, Tryz.ntmps161
   go_wp2_with (first | (go_at_call 208; ((with_reducible refine (C0.out _).mono ?_); rintro e w1 ⟨rfl, rfl⟩)) | (go_at_call 208; ((with_reducible refine (C1.out _).mono ?_); rintro e w1 ⟨rfl, rfl⟩)))
   have ok : Sv.okS s = false := Sv.okB B0.out M0.out (Sv.stepA HA.out)
   exact bodyPost_ret (v := .tuple #[.agg #[.int .i64 0, .int .i64 0, .int .i64 0], .int .i64 10]) Q48 rfl ⟨by rw [parse_fail ok]; rfl, below_alloc w _⟩
 obtain ⟨k1, hk1⟩ : ∃ k, (k0 + 1) + (Sv.run (s.data.toList.drop (k0 + 1))).length = k := ⟨_, rfl⟩
 obtain ⟨v1, hv1⟩ : ∃ v, Sv.val (Sv.run (s.data.toList.drop (k0 + 1))) = v := ⟨_, rfl⟩
 have C1 : RowKit.Hid (∀ w, Calls Tryz.prog 208 #[.string s, .int .i64 ((k0 : Int) + 1)] w fun e w' => e = .returned (.tuple #[.int .i64 (v1 : Nat), .int .i64 (k1 : Nat)]) ∧ w = w') := Hd (fun w => by have h := num_good s (k0 + 1) k1 v1 (by omega) hm hn1 hk1 hv1 w; rwa [show (((k0 + 1) : Nat) : Int) = ((k0 : Int) + 1) from by omega] at h)
 have HN1 := Hd hn1
 have HV1 := Hd hv1
 have HK1 := Hd hk1
 have hle1 : k1 ≤ s.size := by have h := Sv.run_le (s.data.toList.drop (k0 + 1)); rw [List.length_drop, HL.out] at h; omega
 clear hn1 hv1 hk1
 by_cases hlt1 : k1 < s.size
 rotate_left
 · have HA : RowKit.Hid (¬ (Sv.NumR (Sv.r s).data.toList ∧ (Sv.r s).data.toList[(Sv.run (Sv.r s).data.toList).length]? = some 46)) := Hd (by
    rw [X1.out]
    intro h
    have h2 := h.2
    rw [List.getElem?_drop, HK1.out, List.getElem?_eq_none Q68] at h2
    cases h2)
   have d1 : decide ((s.size : Int) ≤ (k1 : Int)) = true := by simp; omega
   go_enter Tryz.func161, Tryz.ntmps161
   go_wp2_with (first | (go_at_call 208; ((with_reducible refine (C0.out _).mono ?_); rintro e w1 ⟨rfl, rfl⟩)) | (go_at_call 208; ((with_reducible refine (C1.out _).mono ?_); rintro e w1 ⟨rfl, rfl⟩)))
   have ok : Sv.okS s = false := Sv.okB B0.out M0.out (Sv.stepA HA.out)
   exact bodyPost_ret (v := .tuple #[.agg #[.int .i64 0, .int .i64 0, .int .i64 0], .int .i64 10]) Q48 rfl ⟨by rw [parse_fail ok]; rfl, below_alloc w _⟩
 by_cases hp1 : s[k1].toNat = 46
 rotate_left
 · have HA : RowKit.Hid (¬ (Sv.NumR (Sv.r s).data.toList ∧ (Sv.r s).data.toList[(Sv.run (Sv.r s).data.toList).length]? = some 46)) := Hd (by
    rw [X1.out]
    intro h
    have h2 := h.2
    rw [List.getElem?_drop, HK1.out, HQ.out k1 hlt1] at h2
    exact hp1 (by rw [Option.some.inj h2]; rfl))
   have d1 : decide ((s.size : Int) ≤ (k1 : Int)) = false := by simp; omega
   have p1 : ((s[k1].toNat : Int) != 46) = true := by simp; omega
   clear hp1
   go_enter Tryz.func161, Tryz.ntmps161
   go_wp2_with (first | (go_at_call 208; ((with_reducible refine (C0.out _).mono ?_); rintro e w1 ⟨rfl, rfl⟩)) | (go_at_call 208; ((with_reducible refine (C1.out _).mono ?_); rintro e w1 ⟨rfl, rfl⟩)))
   have ok : Sv.okS s = false := Sv.okB B0.out M0.out (Sv.stepA HA.out)
   exact bodyPost_ret (v := .tuple #[.agg #[.int .i64 0, .int .i64 0, .int .i64 0], .int .i64 10]) Q48 rfl ⟨by rw [parse_fail ok]; rfl, below_alloc w _⟩
 have P1 : RowKit.Hid (s.data.toList[k1]? = some 46) := Hd (by rw [HQ.out k1 hlt1]; congr 1; exact UInt8.toNat_inj.1 hp1)
 have d1 : decide ((s.size : Int) ≤ (k1 : Int)) = false := by simp; omega
 have p1 : ((s[k1].toNat : Int) != 46) = false := by rw [hp1]; rfl
 clear hp1
 have HS1 : RowKit.Hid (_ ∧ _ ∧ _ ∧ _) := Hd (Sv.stepB (s := (Sv.r s)) (by rw [X1.out]; exact HN1.out) (by rw [X1.out, List.getElem?_drop, HK1.out]; exact P1.out))
 have B1 := Hd HS1.out.1
 have M1 := Hd HS1.out.2.1
 have N1 : RowKit.Hid (Sv.nv (Sv.r s) = v1) := Hd (by rw [HS1.out.2.2.1, X1.out]; exact HV1.out)
 have X2 : RowKit.Hid ((Sv.r (Sv.r s)).data.toList = s.data.toList.drop (k1 + 1)) := Hd (by rw [HS1.out.2.2.2, X1.out, List.drop_drop, ← HK1.out]; rfl)
 by_cases hn2 : Sv.NumR (s.data.toList.drop (k1 + 1))
 rotate_left
 · have HA : RowKit.Hid (¬ (Sv.NumR (Sv.r (Sv.r s)).data.toList ∧ (Sv.run (Sv.r (Sv.r s)).data.toList).length = (Sv.r (Sv.r s)).data.toList.length)) := Hd (by rw [X2.out]; exact fun h => hn2 h.1)
   have C2 : RowKit.Hid (∀ w, Calls Tryz.prog 208 #[.string s, .int .i64 ((k1 : Int) + 1)] w fun e w' => e = .returned (.tuple #[.int .i64 0, .int .i64 (-1)]) ∧ w = w') := Hd (fun w => by have h := num_bad s (k1 + 1) (by omega) hm hn2 w; rwa [show (((k1 + 1) : Nat) : Int) = ((k1 : Int) + 1) from by omega] at h)
   clear hn2
   have e9 : ((-1 : Int) != (s.size : Int)) = true := by simp
   go_enter Tryz.func161, Tryz.ntmps161
   go_wp2_with (first | (go_at_call 208; ((with_reducible refine (C0.out _).mono ?_); rintro e w1 ⟨rfl, rfl⟩)) | (go_at_call 208; ((with_reducible refine (C1.out _).mono ?_); rintro e w1 ⟨rfl, rfl⟩)) | (go_at_call 208; ((with_reducible refine (C2.out _).mono ?_); rintro e w1 ⟨rfl, rfl⟩)))
   have ok : Sv.okS s = false := (Sv.okC B0.out M0.out B1.out M1.out).trans (Sv.lastA HA.out)
   exact bodyPost_ret (v := .tuple #[.agg #[.int .i64 0, .int .i64 0, .int .i64 0], .int .i64 10]) Q48 rfl ⟨by rw [parse_fail ok]; rfl, below_alloc w _⟩
 obtain ⟨k2, hk2⟩ : ∃ k, (k1 + 1) + (Sv.run (s.data.toList.drop (k1 + 1))).length = k := ⟨_, rfl⟩
 obtain ⟨v2, hv2⟩ : ∃ v, Sv.val (Sv.run (s.data.toList.drop (k1 + 1))) = v := ⟨_, rfl⟩
 have C2 : RowKit.Hid (∀ w, Calls Tryz.prog 208 #[.string s, .int .i64 ((k1 : Int) + 1)] w fun e w' => e = .returned (.tuple #[.int .i64 (v2 : Nat), .int .i64 (k2 : Nat)]) ∧ w = w') := Hd (fun w => by have h := num_good s (k1 + 1) k2 v2 (by omega) hm hn2 hk2 hv2 w; rwa [show (((k1 + 1) : Nat) : Int) = ((k1 : Int) + 1) from by omega] at h)
 have HN2 := Hd hn2
 have HV2 := Hd hv2
 have HK2 := Hd hk2
 have hle2 : k2 ≤ s.size := by have h := Sv.run_le (s.data.toList.drop (k1 + 1)); rw [List.length_drop, HL.out] at h; omega
 clear hn2 hv2 hk2
 by_cases hlt2 : k2 = s.size
 rotate_left
 · have HA : RowKit.Hid (¬ (Sv.NumR (Sv.r (Sv.r s)).data.toList ∧ (Sv.run (Sv.r (Sv.r s)).data.toList).length = (Sv.r (Sv.r s)).data.toList.length)) := Hd (by
    rw [X2.out]
    intro h
    have h2 := h.2
    rw [List.length_drop, HL.out] at h2
    have := HK2.out
    omega)
   have e9 : ((k2 : Int) != (s.size : Int)) = true := by simp; omega
   have HLT := Hd hlt2
   clear hlt2
   go_enter Tryz.func161, Tryz.ntmps161
   go_wp2_with (first | (go_at_call 208; ((with_reducible refine (C0.out _).mono ?_); rintro e w1 ⟨rfl, rfl⟩)) | (go_at_call 208; ((with_reducible refine (C1.out _).mono ?_); rintro e w1 ⟨rfl, rfl⟩)) | (go_at_call 208; ((with_reducible refine (C2.out _).mono ?_); rintro e w1 ⟨rfl, rfl⟩)))
   have ok : Sv.okS s = false := (Sv.okC B0.out M0.out B1.out M1.out).trans (Sv.lastA HA.out)
   exact bodyPost_ret (v := .tuple #[.agg #[.int .i64 0, .int .i64 0, .int .i64 0], .int .i64 10]) Q48 rfl ⟨by rw [parse_fail ok]; rfl, below_alloc w _⟩
 have HS2 : RowKit.Hid (_ ∧ _ ∧ _) := Hd (Sv.lastB (s := (Sv.r (Sv.r s))) (by rw [X2.out]; exact HN2.out) (by rw [X2.out, List.length_drop, HL.out]; have := HK2.out; omega))
 have N2 : RowKit.Hid (Sv.nv (Sv.r (Sv.r s)) = v2) := Hd (by rw [HS2.out.2.2, X2.out]; exact HV2.out)
 have e9 : ((k2 : Int) != (s.size : Int)) = false := by simp; omega
 have HLT := Hd hlt2
 clear hlt2
 go_enter Tryz.func161, Tryz.ntmps161
 go_wp2_with (first | (go_at_call 208; ((with_reducible refine (C0.out _).mono ?_); rintro e w1 ⟨rfl, rfl⟩)) | (go_at_call 208; ((with_reducible refine (C1.out _).mono ?_); rintro e w1 ⟨rfl, rfl⟩)) | (go_at_call 208; ((with_reducible refine (C2.out _).mono ?_); rintro e w1 ⟨rfl, rfl⟩)))
 have ok : Sv.okS s = true := by rw [Sv.okC B0.out M0.out B1.out M1.out, HS2.out.1, HS2.out.2.1]; rfl
 exact bodyPost_ret (v := .tuple #[.agg #[.int .i64 (v0 : Nat), .int .i64 (v1 : Nat), .int .i64 (v2 : Nat)], .int .i64 0]) Q48 rfl ⟨by rw [parse_good ok, N0.out, N1.out, N2.out], below_alloc w _⟩
def verC (l : List UInt8) (n : Nat) : Nat := if Sv.okS (ofL (l.take n)) then n else 0
def verB (l : List UInt8) (a b : Nat) : Nat := if b = 0 ∨ l[a + 1 + b]? ≠ some 46 then 0 else verC l (a + b + 2 + cnt dgB (l.drop (a + b + 2)))
def verA (l : List UInt8) (a : Nat) : Nat := if l[a]? ≠ some 46 then 0 else verB l a (cnt dgB (l.drop (a + 1)))
def verD (l : List UInt8) : Nat := verA l (cnt dgB l)
def tdF (L : List UInt8) : Nat → Nat → List UInt8 → Option (List UInt8 × Nat)
 | 0, _, _ => none
 | f + 1, i, said =>
  match L[i]? with
  | none => none
  | some c =>
   if c.toNat = 34 then (if 1000 < said.length then none else some (said, i + 1))
   else if c.toNat < 32 ∨ 126 < c.toNat then none
   else if c.toNat = 92 then (match L[i + 1]? with
    | none => none
    | some d => if (escV d.toNat).2 then tdF L f (i + 2) (said ++ [UInt8.ofNat (escV d.toNat).1]) else none)
   else tdF L f (i + 1) (said ++ [c])
theorem tdF_big (L : List UInt8) : ∀ (f i : Nat) (said : List UInt8), 1000 < said.length → tdF L f i said = none := by
 intro f
 induction f with
 | zero => intro i said h; rfl
 | succ f ih =>
  intro i said h
  unfold tdF
  cases hc : L[i]? with
  | none => rfl
  | some c =>
   simp only [if_pos h]
   by_cases h34 : c.toNat = 34
   · rw [if_pos h34]
   · rw [if_neg h34]
     split
     · rfl
     · split
       · cases hd : L[i + 1]? with
         | none => rfl
         | some d =>
          simp only []
          split
          · exact ih _ _ (by rw [List.length_append]; omega)
          · rfl
       · exact ih _ _ (by rw [List.length_append]; omega)
theorem tdF_tx (L : List UInt8) : ∀ (f i : Nat) (said : List UInt8), tdF L f i said = txF L f i said := by
 intro f
 induction f with
 | zero => intro i said; rfl
 | succ f ih =>
  intro i said
  by_cases h : 1000 < said.length
  · rw [tdF_big L _ _ _ h]
    unfold txF
    rw [if_pos h]
  · unfold tdF txF
    simp only [if_neg h]
    cases hc : L[i]? with
    | none => rfl
    | some c =>
     simp only []
     rw [ih]
     cases hd : L[i + 1]? with
     | none => rfl
     | some d =>
      simp only []
      rw [ih]
def tdM (L : List UInt8) (i : Nat) (said : List UInt8) : Option (List UInt8 × Nat) := tdF L (L.length + 1) i said
theorem tdM_tx (L : List UInt8) (i : Nat) (said : List UInt8) : tdM L i said = txM L i said := tdF_tx L _ _ _
theorem tdM_step (L : List UInt8) (i : Nat) (said : List UInt8) : tdM L i said =
 match L[i]? with
 | none => none
 | some c =>
  if c.toNat = 34 then (if 1000 < said.length then none else some (said, i + 1))
  else if c.toNat < 32 ∨ 126 < c.toNat then none
  else if c.toNat = 92 then (match L[i + 1]? with
   | none => none
   | some d => if (escV d.toNat).2 then tdM L (i + 2) (said ++ [UInt8.ofNat (escV d.toNat).1]) else none)
  else tdM L (i + 1) (said ++ [c]) := by
 by_cases h : 1000 < said.length
 · have h1 : tdM L i said = none := tdF_big L _ _ _ h
   rw [h1]
   cases hc : L[i]? with
   | none => rfl
   | some c =>
    simp only [if_pos h]
    by_cases h34 : c.toNat = 34
    · rw [if_pos h34]
    · rw [if_neg h34]
      split
      · rfl
      · split
        · cases hd : L[i + 1]? with
          | none => rfl
          | some d =>
           simp only []
           split
           · exact (tdF_big L _ _ _ (by rw [List.length_append]; omega)).symm
           · rfl
        · exact (tdF_big L _ _ _ (by rw [List.length_append]; omega)).symm
 · rw [tdM_tx, txM_step]
   simp only [if_neg h]
   cases hc : L[i]? with
   | none => rfl
   | some c =>
    simp only []
    rw [tdM_tx]
    cases hd : L[i + 1]? with
    | none => rfl
    | some d =>
     simp only []
     rw [tdM_tx]
def isS9 (c : Nat) : Bool := decide (c = 61) || decide (c = 124) || decide (c = 40) || decide (c = 41) || decide (c = 44) || decide (c = 59) || decide (c = 58) || decide (c = 46) || decide (c = 64)
def nameD (l : List UInt8) (g : Bool) : Tk × Nat :=
 if 30 < cnt nmB l then (tk0, 0)
 else if g = true then (⟨2, ofL (l.take (cnt nmB l)), 0⟩, cnt nmB l)
 else if l.take (cnt nmB l) = [95] then (⟨8, ofL (l.take (cnt nmB l)), 0⟩, cnt nmB l)
 else if keyB (ofL (l.take (cnt nmB l))) = true then (⟨7, ofL (l.take (cnt nmB l)), 0⟩, cnt nmB l)
 else (⟨1, ofL (l.take (cnt nmB l)), 0⟩, cnt nmB l)
def intDD (l : List UInt8) (k : Nat) : Tk × Nat :=
 if cnt dgB (l.drop k) = 0 ∨ 18 < cnt dgB (l.drop k) ∨ (1 < cnt dgB (l.drop k) ∧ zhB (l.drop k) = true) ∨ (k = 1 ∧ zhB (l.drop k) = true) then (tk0, 0)
 else (⟨4, ⟨#[]⟩, if k = 1 then -(Sv.val ((l.drop k).take (cnt dgB (l.drop k))) : Nat) else (Sv.val ((l.drop k).take (cnt dgB (l.drop k))) : Nat)⟩, k + cnt dgB (l.drop k))
def oneT (l : List UInt8) : Tk × Nat := match l[0]? with
 | none => (tk0, 0)
 | some c =>
  if (smB c || grB c || decide (c.toNat = 95)) = true then nameD l (grB c)
  else if c.toNat = 39 then (if cnt vrB (l.drop 1) = 0 ∨ 29 < cnt vrB (l.drop 1) ∨ headS l[1]? = false then (tk0, 0) else (⟨3, ofL ((l.drop 1).take (cnt vrB (l.drop 1))), 0⟩, 1 + cnt vrB (l.drop 1)))
  else if c.toNat = 34 then txR (tdM l 1 [])
  else if l.take 2 = [45, 62] then (⟨8, ofL [45, 62], 0⟩, 2)
  else if dgB c = true ∧ 0 < verD l then (⟨6, ofL (l.take (verD l)), 0⟩, verD l)
  else if (dgB c || decide (c.toNat = 45)) = true then intDD l (if c.toNat = 45 then 1 else 0)
  else if isS9 c.toNat = true then (⟨8, ofL (l.take 1), 0⟩, 1)
  else (tk0, 0)
theorem oneT_at {l : List UInt8} {c : UInt8} (h : l[0]? = some c) : oneT l =
 if (smB c || grB c || decide (c.toNat = 95)) = true then nameD l (grB c)
 else if c.toNat = 39 then (if cnt vrB (l.drop 1) = 0 ∨ 29 < cnt vrB (l.drop 1) ∨ headS l[1]? = false then (tk0, 0) else (⟨3, ofL ((l.drop 1).take (cnt vrB (l.drop 1))), 0⟩, 1 + cnt vrB (l.drop 1)))
 else if c.toNat = 34 then txR (tdM l 1 [])
 else if l.take 2 = [45, 62] then (⟨8, ofL [45, 62], 0⟩, 2)
 else if dgB c = true ∧ 0 < verD l then (⟨6, ofL (l.take (verD l)), 0⟩, verD l)
 else if (dgB c || decide (c.toNat = 45)) = true then intDD l (if c.toNat = 45 then 1 else 0)
 else if isS9 c.toNat = true then (⟨8, ofL (l.take 1), 0⟩, 1)
 else (tk0, 0) := by
 unfold oneT
 rw [h]
theorem cnt_cons_pos {p : UInt8 → Bool} {l : List UInt8} {c : UInt8} (h : l[0]? = some c) (hp : p c = true) : 1 ≤ cnt p l := by
 cases l with
 | nil => cases h
 | cons d r =>
  have : d = c := by simpa using h
  subst this
  unfold cnt
  rw [List.takeWhile_cons, if_pos hp, List.length_cons]
  omega
theorem take_head {l : List UInt8} {c : UInt8} {n : Nat} (h : l[0]? = some c) (hn : 1 ≤ n) : (l.take n).head? = some c := by
 rw [head_take (by omega), List.head?_eq_getElem?, h]
theorem key_head {l : List UInt8} {c : UInt8} (h : l.head? = some c) (hc : smB c = false) : keyB (ofL l) = false := by
 cases hk : keyB (ofL l) with
 | false => rfl
 | true =>
  unfold keyB at hk
  simp only [Bool.or_eq_true, decide_eq_true_eq] at hk
  have key : ∀ (x : UInt8) (r : List UInt8), smB x = true → ofL l = ⟨(x :: r).toArray⟩ → False := by
   intro x r hx he
   have h1 : l = x :: r := congrArg (fun s : ByteArray => s.data.toList) he
   rw [h1] at h
   have : x = c := by simpa using h
   rw [this, hc] at hx
   cases hx
  rcases hk with ((((((((((hk | hk) | hk) | hk) | hk) | hk) | hk) | hk) | hk) | hk) | hk)
  all_goals exact (key _ _ (by decide) hk).elim
theorem sm_far {c : UInt8} (h : smB c = true) : grB c = false ∧ c.toNat ≠ 95 ∧ nmB c = true := by
 have h1 : nmB c = true := by unfold nmB; rw [h]; rfl
 unfold smB at h
 simp at h
 refine ⟨?_, by omega, h1⟩
 unfold grB
 simp
 omega
theorem gr_far {c : UInt8} (h : grB c = true) : smB c = false ∧ c.toNat ≠ 95 ∧ nmB c = true := by
 have h1 : nmB c = true := by unfold nmB; rw [h]; simp
 unfold grB at h
 simp at h
 refine ⟨?_, by omega, h1⟩
 unfold smB
 simp
 omega
theorem dg_far {c : UInt8} (h : dgB c = true) : smB c = false ∧ grB c = false ∧ c.toNat ≠ 95 ∧ c.toNat ≠ 39 ∧ c.toNat ≠ 34 ∧ c.toNat ≠ 45 ∧ isS9 c.toNat = false := by
 unfold dgB at h
 simp at h
 refine ⟨?_, ?_, by omega, by omega, by omega, by omega, ?_⟩
 · unfold smB; simp; omega
 · unfold grB; simp; omega
 · unfold isS9; simp; omega
theorem okS_split {s : ByteArray} (h : Sv.okS s = true) : ∃ x y z : List UInt8, s.data.toList = x ++ 46 :: (y ++ 46 :: z) ∧ (∀ c ∈ x, dgB c = true) ∧ (∀ c ∈ y, dgB c = true) ∧ (∀ c ∈ z, dgB c = true) ∧ x ≠ [] ∧ y ≠ [] ∧ z ≠ [] ∧ x.length ≤ 6 ∧ y.length ≤ 6 ∧ z.length ≤ 6 := by
 unfold Sv.okS at h
 simp only [Bool.and_eq_true, Bool.not_eq_true'] at h
 obtain ⟨⟨⟨⟨⟨h1, h2⟩, h3⟩, h4⟩, h5⟩, h6⟩ := h
 have e1 := ver_m h2
 have e2 := ver_m h4
 have e3 := ver_no h6
 have n1 := ver_nb h1
 have n2 := ver_nb h3
 have n3 := ver_nb h5
 rw [e3] at n3
 rw [e2] at e1
 have len6 : ∀ l : List UInt8, Sv.NumP l → l.length ≤ 6 := by
  intro l hl
  by_cases hz : l.head? = some 48
  · have := hl.2.1
    have h7 : ¬ 1 < l.length := fun h8 => this ⟨hz, h8⟩
    omega
  · rcases Nat.lt_or_ge l.length 7 with h7 | h7
    · omega
    · exfalso
      cases l with
      | nil => simp at h7
      | cons x r =>
       have hx := Sv.isDig_yes (hl.2.2.1 x (by simp))
       have hne : x.toNat ≠ 48 := fun e => hz (by simp only [List.head?_cons]; congr 1; exact UInt8.toNat_inj.1 e)
       have h5 := Sv.foldl_le r (10 * 0 + (x.toNat - 48))
       have h6 : Sv.val (x :: r) = r.foldl (fun n c => 10 * n + (c.toNat - 48)) (10 * 0 + (x.toNat - 48)) := rfl
       have h8 : 10 ^ 6 ≤ 10 ^ r.length := Nat.pow_le_pow_right (by decide) (by simp at h7; omega)
       have h9 : 1 * 10 ^ r.length ≤ (10 * 0 + (x.toNat - 48)) * 10 ^ r.length := Nat.mul_le_mul_right _ (by omega)
       have h10 := hl.2.2.2
       have h11 : (10 : Nat) ^ 6 = 1000000 := by decide
       omega
 exact ⟨_, _, _, e1, fun c hc => by rw [dg_is]; exact n1.2.2.1 c hc, fun c hc => by rw [dg_is]; exact n2.2.2.1 c hc, fun c hc => by rw [dg_is]; exact n3.2.2.1 c hc, n1.1, n2.1, n3.1, len6 _ n1, len6 _ n2, len6 _ n3⟩
theorem cnt_all {p : UInt8 → Bool} {x : List UInt8} (h : ∀ c ∈ x, p c = true) : cnt p x = x.length := by
 unfold cnt
 induction x with
 | nil => rfl
 | cons c x ih =>
  rw [List.takeWhile_cons, if_pos (h c (List.mem_cons_self ..)), List.length_cons, ih fun d hd => h d (List.mem_cons_of_mem _ hd), List.length_cons]
theorem dg46 : dgB 46 = false := by decide
theorem cnt_point {x r : List UInt8} (h : ∀ c ∈ x, dgB c = true) : cnt dgB (x ++ 46 :: r) = x.length := by
 rw [cnt_app dgB _ (fun c hc => by cases hc; exact dg46), cnt_all h]
theorem verD_whole {l : List UInt8} (h : Sv.okS (ofL l) = true) : verD l = l.length ∧ l.length ≤ 20 := by
 obtain ⟨x, y, z, e, hx, hy, hz, nx, ny, nz, lx, ly, lz⟩ := okS_split h
 rw [ofL_list] at e
 have hlen : l.length = x.length + (y.length + (z.length + 1) + 1) := by rw [e]; simp
 refine ⟨?_, by omega⟩
 have a1 : cnt dgB l = x.length := by rw [e]; exact cnt_point hx
 have a2 : l[x.length]? = some 46 := by rw [e]; simp
 have a3 : l.drop (x.length + 1) = y ++ 46 :: z := by rw [e, ← List.drop_drop, List.drop_left]; rfl
 have a4 : l.drop (x.length + y.length + 2) = z := by
  have h1 : x.length + y.length + 2 = (x.length + 1) + (y.length + 1) := by omega
  rw [h1, ← List.drop_drop, a3, ← List.drop_drop, List.drop_left]; rfl
 have a5 : l[x.length + 1 + y.length]? = some 46 := by
  have h1 := congrArg (fun m => m[y.length]?) a3
  simp only [List.getElem?_drop] at h1
  rw [h1]; simp
 have hpy : y.length ≠ 0 := fun h0 => ny (List.eq_nil_of_length_eq_zero h0)
 unfold verD verA
 rw [a1, a2, if_neg (by simp), a3, cnt_point hy]
 unfold verB
 rw [a5, if_neg (by simp; exact ny), a4, cnt_all hz]
 unfold verC
 rw [List.take_of_length_le (by omega), h]
 simp only [if_true]
 omega
theorem verD_ok {l : List UInt8} (h : 0 < verD l) : Sv.okS (ofL (l.take (verD l))) = true := by
 unfold verD verA verB verC at h ⊢
 split at h
 · omega
 · rename_i h1
   rw [if_neg h1]
   split at h
   · omega
   · rename_i h2
     rw [if_neg h2]
     split at h
     · rename_i h3
       rw [if_pos h3]
       exact h3
     · omega
theorem verD_le (l : List UInt8) : verD l ≤ l.length := by
 unfold verD verA verB verC
 split
 · omega
 · split
   · omega
   · split
     · rename_i h1 h2 h3
       have c := cnt_le dgB (l.drop (cnt dgB l + cnt dgB (l.drop (cnt dgB l + 1)) + 2))
       rw [List.length_drop] at c
       have hh : l[cnt dgB l + 1 + cnt dgB (l.drop (cnt dgB l + 1))]? = some 46 := by
        by_cases h4 : l[cnt dgB l + 1 + cnt dgB (l.drop (cnt dgB l + 1))]? = some 46
        · exact h4
        · exact absurd (.inr h4) h2
       have := (List.getElem?_eq_some_iff.1 hh).1
       omega
     · omega
theorem verM_whole {l : List UInt8} (h0 : 0 < l.length) : verM (ofL l) = l.length ↔ Sv.okS (ofL l) = true := by
 constructor
 · intro h
   have h1 : Sv.okS ((ofL l).extract 0 (verM (ofL l))) = true := verF_ok (ofL l) (min (ofL l).size 20) (by unfold verM at h; omega)
   rw [h, ofL_take, List.take_of_length_le (Nat.le_refl _)] at h1
   exact h1
 · intro h
   have h20 := (verD_whole h).2
   unfold verM
   apply verF_eq
   · rw [ofL_size]; omega
   · intro _
     rw [ofL_take, List.take_of_length_le (Nat.le_refl _)]
     exact h
   · intro m h1 h2
     rw [ofL_size] at h2
     omega
theorem all_no {l : List UInt8} (h : ∀ c ∈ l, dgB c = true ∨ c = 45) : Sv.okS (ofL l) = false := by
 cases hk : Sv.okS (ofL l) with
 | false => rfl
 | true =>
  obtain ⟨x, y, z, e, _⟩ := okS_split hk
  rw [ofL_list] at e
  have := h 46 (by rw [e]; simp)
  rcases this with h1 | h1 <;> cases h1
theorem verM_none {l : List UInt8} (h : ∀ c ∈ l, dgB c = true ∨ c = 45) : verM (ofL l) = 0 := by
 rcases Nat.eq_zero_or_pos (verM (ofL l)) with e | e
 · exact e
 · have h1 : Sv.okS ((ofL l).extract 0 (verM (ofL l))) = true := verF_ok (ofL l) (min (ofL l).size 20) e
   rw [ofL_take, all_no fun c hc => h c (List.mem_of_mem_take hc)] at h1
   cases h1
theorem verD_none {l : List UInt8} (h : ∀ c ∈ l, dgB c = true ∨ c = 45) : verD l = 0 := by
 rcases Nat.eq_zero_or_pos (verD l) with e | e
 · exact e
 · have h1 := verD_ok e
   rw [all_no fun c hc => h c (List.mem_of_mem_take hc)] at h1
   cases h1
theorem cnt_whole {p : UInt8 → Bool} {l : List UInt8} (h : cnt p l = l.length) : ∀ c ∈ l, p c = true := by
 have h1 := take_cnt p l
 rw [h, List.take_length] at h1
 intro c hc
 rw [h1] at hc
 exact takeW_all p l c hc
theorem intD_eq {l : List UInt8} (hz : zhB l = false) : intD l = l.take (cnt dgB l) := by
 unfold intD intN
 rw [hz]
 rfl
theorem intM_p {l : List UInt8} (hp : Lib.hasPrefix l [45] = false) (h0 : intN l ≠ 0) (h18 : intN l ≤ 18) : intM l = intN l := by
 unfold intM
 rw [hp, if_neg (by simp : ¬ (false = true)), if_neg]
 simp only [Bool.or_eq_true, decide_eq_true_eq]
 omega
theorem intM_n {l : List UInt8} (hp : Lib.hasPrefix l [45] = true) (hz : zhB (l.drop 1) = false) (h0 : intN (l.drop 1) ≠ 0) (h18 : intN (l.drop 1) ≤ 18) : intM l = 1 + intN (l.drop 1) := by
 unfold intM
 rw [hp, if_pos rfl, hz, if_neg]
 simp only [Bool.false_or, Bool.or_eq_true, decide_eq_true_eq]
 omega
theorem intM_z {l : List UInt8} (hp : Lib.hasPrefix l [45] = true) (h : zhB (l.drop 1) = true ∨ intN (l.drop 1) = 0 ∨ 18 < intN (l.drop 1)) : intM l = 0 := by
 unfold intM
 rw [hp, if_pos rfl, if_pos]
 simp only [Bool.or_eq_true, decide_eq_true_eq]
 rcases h with h | h | h
 · exact .inl (.inl h)
 · exact .inl (.inr h)
 · exact .inr h
theorem intV_p {l : List UInt8} (hp : Lib.hasPrefix l [45] = false) (h0 : intN l ≠ 0) : intV l = (Sv.val (intD l) : Nat) := by
 unfold intV
 rw [hp, if_neg (by simp : ¬ (false = true)), intD_val h0]
 rfl
theorem intV_n {l : List UInt8} (hp : Lib.hasPrefix l [45] = true) (h0 : intN (l.drop 1) ≠ 0) : intV l = -(Sv.val (intD (l.drop 1)) : Nat) := by
 unfold intV
 rw [hp, if_pos rfl, intD_val h0]
 rfl
theorem one_first {l : List UInt8} {t : Tk} (h0 : 0 < l.length) : oneT l = (t, l.length) ↔ firstT (ofL l) = (t, l.length) := by
 obtain ⟨c, hc⟩ : ∃ c, l[0]? = some c := ⟨l[0], List.getElem?_eq_getElem h0⟩
 rw [firstT_at hc, oneT_at hc]
 have bad : ∀ (t : Tk) (n : Nat), (tk0, 0) = (t, n) → n = 0 := fun t n h => by cases h; rfl
 by_cases hs : smB c = true
 · obtain ⟨f1, f2, f3⟩ := sm_far hs
   rw [if_pos (by rw [hs]; rfl), if_pos (by rw [hs]; rfl), f1, nameT_ofL]
   have h1 := cnt_cons_pos hc f3
   have hne : l.take (cnt nmB l) ≠ [95] := fun e => by
    have h2 := take_head hc h1
    rw [e] at h2
    cases h2
    exact f2 rfl
   unfold nameD
   rw [if_neg (by simp : ¬ (false = true)), if_neg hne]
   by_cases h30 : 30 < cnt nmB l
   · rw [if_pos h30, if_pos h30]
   · rw [if_neg h30, if_neg h30]
     cases hk : keyB (ofL (l.take (cnt nmB l))) <;> simp
 rw [Bool.not_eq_true] at hs
 by_cases hg : grB c = true
 · obtain ⟨f1, f2, f3⟩ := gr_far hg
   rw [if_pos (by rw [hg]; simp), if_neg (by rw [hs]; simp [f2]), if_pos hg, hg, nameT_ofL]
   have h1 := cnt_cons_pos hc f3
   have hk := key_head (take_head hc h1) f1
   unfold nameD
   rw [if_pos rfl, hk]
   simp
 rw [Bool.not_eq_true] at hg
 by_cases h95 : c.toNat = 95
 · have f3 : nmB c = true := by unfold nmB; rw [h95]; simp
   have h1 := cnt_cons_pos hc f3
   rw [if_pos (c := (smB c || grB c || decide (c.toNat = 95)) = true) (by rw [h95]; simp), hg]
   by_cases hn : 1 < cnt nmB l
   · have hne : l.take (cnt nmB l) ≠ [95] := fun e => by
      have h2 := congrArg List.length e
      have h3 := cnt_le nmB l
      rw [List.length_take] at h2
      simp at h2
      omega
     have e : nameD l false = nameT 1 (ofL l) := by
      unfold nameD
      rw [nameT_ofL, if_neg (by simp : ¬ (false = true)), if_neg hne]
      by_cases h30 : 30 < cnt nmB l
      · rw [if_pos h30, if_pos h30]
      · rw [if_neg h30, if_neg h30]
        cases hk : keyB (ofL (l.take (cnt nmB l))) <;> simp
     rw [e, if_pos (c := (smB c || (decide (c.toNat = 95) && decide (1 < cnt nmB l))) = true) (by rw [hs, h95]; simp [hn])]
   · have hn1 : cnt nmB l = 1 := by omega
     have ht : l.take 1 = [95] := by rw [take_one hc, u8 h95 (by decide)]; rfl
     have hd : dgB c = false := by unfold dgB; simp; omega
     have e : nameD l false = (⟨8, ofL (l.take 1), 0⟩, 1) := by
      unfold nameD
      rw [hn1, if_neg (by omega), if_neg (by simp : ¬ (false = true)), if_pos ht]
     rw [e, if_neg (c := (smB c || (decide (c.toNat = 95) && decide (1 < cnt nmB l))) = true) (by rw [hs, h95]; simp [hn]), if_neg (by simp : ¬ (false = true)), if_neg (c := c.toNat = 39) (by omega), if_neg (c := c.toNat = 34) (by omega),
      if_neg (c := (dgB c || (decide (c.toNat = 45) && !Lib.hasPrefix l [45, 62])) = true) (by rw [hd]; simp; omega), signT_ofL, if_neg (by omega), h95]
     rfl
 rw [if_neg (c := (smB c || grB c || decide (c.toNat = 95)) = true) (by rw [hs, hg]; simp [h95]), if_neg (c := (smB c || (decide (c.toNat = 95) && decide (1 < cnt nmB l))) = true) (by rw [hs]; simp [h95]), if_neg (c := grB c = true) (by rw [hg]; simp)]
 by_cases h39 : c.toNat = 39
 · rw [if_pos h39, if_pos h39, varT_ofL]
 rw [if_neg h39, if_neg h39]
 by_cases h34 : c.toNat = 34
 · rw [if_pos h34, if_pos h34, tdM_tx]
   rfl
 rw [if_neg h34, if_neg h34]
 by_cases hp : l.take 2 = [45, 62]
 · have h45 : c = 45 := by
    have h1 := take_head (n := 2) hc (by omega)
    rw [hp] at h1
    cases h1
    rfl
   have hd : dgB c = false := by rw [h45]; decide
   have hq : Lib.hasPrefix l [45, 62] = true := by rw [hp2, hp]; rfl
   rw [if_pos hp, if_neg (by rw [hd, hq]; simp), signT_ofL, if_pos (by rw [h45]; rfl), hp]
 rw [if_neg hp]
 have hq : Lib.hasPrefix l [45, 62] = false := by rw [hp2, beq_eq_false_iff_ne]; exact hp
 by_cases hd : dgB c = true
 · obtain ⟨_, _, _, _, _, f45, _⟩ := dg_far hd
   rw [if_pos (c := (dgB c || (decide (c.toNat = 45) && !Lib.hasPrefix l [45, 62])) = true) (by rw [hd]; rfl)]
   by_cases hok : Sv.okS (ofL l) = true
   · have h1 := verD_whole hok
     rw [if_pos ⟨hd, by omega⟩, numT_ofL, (verM_whole h0).2 hok, if_pos h0, h1.1]
   · have hnM : verM (ofL l) ≠ l.length := fun e => hok ((verM_whole h0).1 e)
     have hnD : verD l ≠ l.length := fun e => by
      have := verD_ok (l := l) (by omega)
      rw [e, List.take_length] at this
      exact hok this
     have hint : ∀ t : Tk, (verD l = 0 ∧ intDD l 0 = (t, l.length)) ↔ (verM (ofL l) = 0 ∧ intM l ≠ 0 ∧ ((⟨4, ⟨#[]⟩, intV l⟩ : Tk), intM l) = (t, l.length)) := by
      intro t
      have hp45 : Lib.hasPrefix l [45] = false := by
       rw [hp1, List.head?_eq_getElem?, hc, beq_eq_false_iff_ne]
       intro e
       cases e
       exact f45 rfl
      have hcl := cnt_le dgB l
      constructor
      · rintro ⟨_, h⟩
        unfold intDD at h
        rw [List.drop_zero] at h
        split at h
        · have := bad _ _ h; omega
        · rename_i hcond
          have hn : 0 + cnt dgB l = l.length := congrArg Prod.snd h
          have hall := cnt_whole (p := dgB) (l := l) (by omega)
          have hz : zhB l = true → l.length = 1 := fun hz => by
           have : ¬ 1 < cnt dgB l := fun h1 => hcond (.inr (.inr (.inl ⟨h1, hz⟩)))
           omega
          have hN : intN l = l.length := by
           unfold intN
           split
           · rename_i h1; exact (hz h1).symm
           · omega
          have h18 : ¬ 18 < l.length := fun h1 => hcond (.inr (.inl (by omega)))
          have hM : intM l = l.length := by rw [intM_p hp45 (by omega) (by omega), hN]
          refine ⟨verM_none fun c hc => .inl (hall c hc), by omega, ?_⟩
          have hV : intV l = (Sv.val l : Nat) := by
           have : intD l = l := by unfold intD; rw [hN, List.take_length]
           rw [intV_p hp45 (by omega), this]
          rw [← h, hM, hV, hn]
          have hx : cnt dgB l = l.length := by omega
          rw [hx, List.take_length]
          rfl
      · rintro ⟨_, hi, h⟩
        have hn : intM l = l.length := congrArg Prod.snd h
        obtain ⟨e1, e2, e3⟩ := intM_plain hp45 hi
        have hN : intN l = l.length := by omega
        have hcnt : cnt dgB l = l.length := by
         unfold intN at hN
         split at hN
         · rename_i hz
           have := zh_cnt hz
           omega
         · exact hN
        have hall := cnt_whole (p := dgB) (l := l) hcnt
        have hz : zhB l = true → l.length = 1 := fun hz => by
         unfold intN at hN
         rw [if_pos hz] at hN
         omega
        refine ⟨verD_none fun c hc => .inl (hall c hc), ?_⟩
        unfold intDD
        rw [List.drop_zero, hcnt, if_neg]
        · have hV : intV l = (Sv.val l : Nat) := by
           have : intD l = l := by unfold intD; rw [hN, List.take_length]
           rw [intV_p hp45 (by omega), this]
          rw [hV, hn] at h
          rw [List.take_length, ← h]
          simp
        · rintro (h1 | h1 | ⟨h1, h2⟩ | ⟨h1, _⟩)
          · omega
          · omega
          · have := hz h2; omega
          · omega
     have hL : (if dgB c = true ∧ 0 < verD l then ((⟨6, ofL (l.take (verD l)), 0⟩ : Tk), verD l) else if (dgB c || decide (c.toNat = 45)) = true then intDD l (if c.toNat = 45 then 1 else 0) else if isS9 c.toNat = true then (⟨8, ofL (l.take 1), 0⟩, 1) else (tk0, 0)) = (t, l.length) ↔ (verD l = 0 ∧ intDD l 0 = (t, l.length)) := by
      by_cases hv : 0 < verD l
      · rw [if_pos ⟨hd, hv⟩]
        constructor
        · intro h; exact absurd (congrArg Prod.snd h) hnD
        · rintro ⟨h, _⟩; omega
      · rw [if_neg (fun h => hv h.2), if_pos (by rw [hd]; rfl), if_neg f45]
        constructor
        · intro h; exact ⟨by omega, h⟩
        · rintro ⟨_, h⟩; exact h
     have hR : numT (ofL l) = (t, l.length) ↔ (verM (ofL l) = 0 ∧ intM l ≠ 0 ∧ ((⟨4, ⟨#[]⟩, intV l⟩ : Tk), intM l) = (t, l.length)) := by
      rw [numT_ofL]
      by_cases hv : 0 < verM (ofL l)
      · rw [if_pos hv]
        constructor
        · intro h; exact absurd (congrArg Prod.snd h) hnM
        · rintro ⟨h, _⟩; omega
      · rw [if_neg hv]
        by_cases hi : intM l = 0
        · rw [if_pos hi]
          constructor
          · intro h; have := bad _ _ h; omega
          · rintro ⟨_, h, _⟩; exact absurd hi h
        · rw [if_neg hi]
          constructor
          · intro h; exact ⟨by omega, hi, h⟩
          · rintro ⟨_, _, h⟩; exact h
     rw [hL, hR]
     exact hint t
 rw [Bool.not_eq_true] at hd
 rw [if_neg (c := dgB c = true ∧ 0 < verD l) (by rw [hd]; simp)]
 by_cases h45 : c.toNat = 45
 · have h45' : c = 45 := u8 h45 (by decide)
   have hp45 : Lib.hasPrefix l [45] = true := by rw [hp1, List.head?_eq_getElem?, hc, h45']; rfl
   have hv : verM (ofL l) = 0 := by
    rcases Nat.eq_zero_or_pos (verM (ofL l)) with e | e
    · exact e
    · have h1 : Sv.okS ((ofL l).extract 0 (verM (ofL l))) = true := verF_ok (ofL l) (min (ofL l).size 20) e
      have h2 := (okS_bytes h1).2 45
      rw [ofL_take, ofL_list, head_take e, List.head?_eq_getElem?, hc, h45'] at h2
      have := h2 rfl
      cases this
   rw [if_pos (by rw [h45]; simp), if_pos h45, if_pos (by rw [hd, h45, hq]; simp), numT_ofL, hv, if_neg (by omega)]
   have e : intDD l 1 = if intM l = 0 then (tk0, 0) else (⟨4, ⟨#[]⟩, intV l⟩, intM l) := by
    unfold intDD
    by_cases hz : zhB (l.drop 1) = true
    · rw [if_pos (.inr (.inr (.inr ⟨rfl, hz⟩))), intM_z hp45 (.inl hz), if_pos rfl]
    · rw [Bool.not_eq_true] at hz
      have hN : intN (l.drop 1) = cnt dgB (l.drop 1) := by unfold intN; rw [hz]; rfl
      by_cases hcond : cnt dgB (l.drop 1) = 0 ∨ 18 < cnt dgB (l.drop 1)
      · rw [intM_z hp45 (.inr (by rw [hN]; exact hcond)), if_pos (c := (0 : Nat) = 0) rfl]
        rcases hcond with h2 | h2
        · rw [if_pos (.inl h2)]
        · rw [if_pos (.inr (.inl h2))]
      · have hM : intM l = 1 + cnt dgB (l.drop 1) := by rw [intM_n hp45 hz (by omega) (by omega), hN]
        have hV : intV l = -(Sv.val ((l.drop 1).take (cnt dgB (l.drop 1))) : Nat) := by rw [intV_n hp45 (by omega), intD_eq hz]
        rw [hM, hV, if_neg (c := 1 + cnt dgB (l.drop 1) = 0) (by omega), if_neg]
        · rfl
        · rintro (h1 | h1 | ⟨_, h1⟩ | ⟨_, h1⟩)
          · exact hcond (.inl h1)
          · exact hcond (.inr h1)
          · rw [hz] at h1; cases h1
          · rw [hz] at h1; cases h1
   rw [e]
 rw [if_neg (c := (dgB c || decide (c.toNat = 45)) = true) (by rw [hd]; simp [h45]), if_neg (c := (dgB c || (decide (c.toNat = 45) && !Lib.hasPrefix l [45, 62])) = true) (by rw [hd]; simp [h45]), signT_ofL, if_neg h45]
 have hsg : sgB c.toNat = isS9 c.toNat := by
   unfold sgB isS9
   simp [h95]
 rw [hsg]
theorem digits0_any (s : ByteArray) (hm : s.size ≤ 4194304) (w : World) : Calls Tryz.prog 242 #[.string s, .int .i64 0] w fun e w' => e = .returned (.int .i64 (cnt dgB s.data.toList : Nat)) ∧ w = w' := by
 have h := digits_any s hm 0 (Nat.zero_le _) w
 rw [List.drop_zero] at h
 exact h
theorem digits1_any (s : ByteArray) (hm : s.size ≤ 4194304) (a : Nat) (ha : a + 1 ≤ s.size) (w : World) : Calls Tryz.prog 242 #[.string s, .int .i64 ((a : Int) + 1)] w fun e w' => e = .returned (.int .i64 (cnt dgB (s.data.toList.drop (a + 1)) : Nat)) ∧ w = w' := by
 have h := digits_any s hm (a + 1) ha w
 have e : ((a + 1 : Nat) : Int) = (a : Int) + 1 := by omega
 rw [e] at h
 exact h
theorem digits2_any (s : ByteArray) (hm : s.size ≤ 4194304) (a b : Nat) (ha : a + b + 2 ≤ s.size) (w : World) : Calls Tryz.prog 242 #[.string s, .int .i64 ((a : Int) + (b : Int) + 2)] w fun e w' => e = .returned (.int .i64 (cnt dgB (s.data.toList.drop (a + b + 2)) : Nat)) ∧ w = w' := by
 have h := digits_any s hm (a + b + 2) ha w
 have e : ((a + b + 2 : Nat) : Int) = (a : Int) + (b : Int) + 2 := by omega
 rw [e] at h
 exact h
theorem at_some {s : ByteArray} {k : Nat} (hk : k < s.size) (h : s[k].toNat ≠ 46) : s.data.toList[k]? ≠ some 46 := by
 rw [at_list s k hk]
 intro e
 have e2 : s[k] = 46 := by simpa using e
 exact h (by rw [e2]; rfl)
theorem at_46 {s : ByteArray} {k : Nat} (hk : k < s.size) (h : s[k].toNat = 46) : s.data.toList[k]? = some 46 := by
 rw [at_list s k hk, u8 h (by decide)]
 rfl
theorem at_out {s : ByteArray} {k : Nat} (hk : ¬ k < s.size) : s.data.toList[k]? ≠ some 46 := by
 rw [List.getElem?_eq_none Q65]
 intro e
 cases e
theorem version_doc (s : ByteArray) (hm : s.size ≤ 4194304) (w : World) : Calls Tryz.prog 241 #[.string s, .int .i64 0] w fun e w' => e = .returned (.int .i64 (verD s.data.toList : Nat)) ∧ Below w.heap.size w w' := by
 have H0 := Hd (fun W => digits0_any s hm W)
 have hD : verD s.data.toList = verA s.data.toList (cnt dgB s.data.toList) := rfl
 rw [hD]
 have hle := cnt_le dgB s.data.toList
 rw [len_list] at hle
 generalize cnt dgB s.data.toList = a at *
 by_cases h1 : a < s.size
 rotate_left
 · have d1 : decide (s.size ≤ a) = true := by simp; omega
   have HR : RowKit.Hid (verA s.data.toList a = 0) := Hd (by unfold verA; rw [if_pos (at_out h1)])
   clear hD h1
   go_enter Tryz.func241, Tryz.ntmps241
   go_wp2_with (go_at_call 242; with_reducible refine (H0.out _).mono ?_; rintro e w1 ⟨rfl, rfl⟩)
   go_ret
   exact ⟨ret_int (by rw [HR.out]; rfl), Below.refl _ _⟩
 have d1 : decide (s.size ≤ a) = false := by simp; omega
 have hai : (a : Int) < (s.size : Int) := by omega
 by_cases h2 : s[a].toNat = 46
 rotate_left
 · have d2 : ((s[a].toNat : Int) != 46) = true := by simp; omega
   have HR : RowKit.Hid (verA s.data.toList a = 0) := Hd (by unfold verA; rw [if_pos (at_some h1 h2)])
   clear hD h2
   go_enter Tryz.func241, Tryz.ntmps241
   go_wp2_with (go_at_call 242; with_reducible refine (H0.out _).mono ?_; rintro e w1 ⟨rfl, rfl⟩)
   go_ret
   exact ⟨ret_int (by rw [HR.out]; rfl), Below.refl _ _⟩
 have d2 : ((s[a].toNat : Int) != 46) = false := by simp; omega
 have hA : verA s.data.toList a = verB s.data.toList a (cnt dgB (s.data.toList.drop (a + 1))) := by unfold verA; rw [if_neg (fun h => h (at_46 h1 h2))]
 rw [hA]
 have H1 := Hd (fun W => digits1_any s hm a (by omega) W)
 have hle1 := cnt_le dgB (s.data.toList.drop (a + 1))
 rw [List.length_drop, len_list] at hle1
 clear hD hA h2
 generalize cnt dgB (s.data.toList.drop (a + 1)) = b at *
 by_cases h3 : b = 0
 · subst h3
   have HR : RowKit.Hid (verB s.data.toList a 0 = 0) := Hd (by unfold verB; rw [if_pos (.inl rfl)])
   go_enter Tryz.func241, Tryz.ntmps241
   go_wp2_with (first
    | (go_at_call 242; with_reducible refine (H0.out _).mono ?_; rintro e w1 ⟨rfl, rfl⟩)
    | (go_at_call 242; with_reducible refine (H1.out _).mono ?_; rintro e w1 ⟨rfl, rfl⟩))
   go_ret
   exact ⟨ret_int (by rw [HR.out]; rfl), Below.refl _ _⟩
 have d3 : ((b : Int) == 0) = false := by rw [beq_eq_false_iff_ne]; omega
 by_cases h4 : a + 1 + b < s.size
 rotate_left
 · have d4 : decide ((s.size : Int) ≤ (a : Int) + 1 + (b : Int)) = true := by simp; omega
   have d4' : decide (s.size ≤ a + 1 + b) = true := by simp; omega
   have HR : RowKit.Hid (verB s.data.toList a b = 0) := Hd (by unfold verB; rw [if_pos (.inr (at_out h4))])
   clear h3 h4
   go_enter Tryz.func241, Tryz.ntmps241
   go_wp2_with (first
    | (go_at_call 242; with_reducible refine (H0.out _).mono ?_; rintro e w1 ⟨rfl, rfl⟩)
    | (go_at_call 242; with_reducible refine (H1.out _).mono ?_; rintro e w1 ⟨rfl, rfl⟩))
   go_ret
   exact ⟨ret_int (by rw [HR.out]; rfl), Below.refl _ _⟩
 have d4 : decide ((s.size : Int) ≤ (a : Int) + 1 + (b : Int)) = false := by simp; omega
 have d4' : decide (s.size ≤ a + 1 + b) = false := by simp; omega
 have h4i : (a : Int) + 1 + (b : Int) < (s.size : Int) := by omega
 by_cases h5 : s[a + 1 + b].toNat = 46
 rotate_left
 · have d5 : ((s[a + 1 + b].toNat : Int) != 46) = true := by simp; omega
   have HR : RowKit.Hid (verB s.data.toList a b = 0) := Hd (by unfold verB; rw [if_pos (.inr (at_some h4 h5))])
   clear h3 h5
   go_enter Tryz.func241, Tryz.ntmps241
   go_wp2_with (first
    | (go_at_call 242; with_reducible refine (H0.out _).mono ?_; rintro e w1 ⟨rfl, rfl⟩)
    | (go_at_call 242; with_reducible refine (H1.out _).mono ?_; rintro e w1 ⟨rfl, rfl⟩))
   go_ret
   exact ⟨ret_int (by rw [HR.out]; rfl), Below.refl _ _⟩
 have d5 : ((s[a + 1 + b].toNat : Int) != 46) = false := by simp; omega
 have hB : verB s.data.toList a b = verC s.data.toList (a + b + 2 + cnt dgB (s.data.toList.drop (a + b + 2))) := by
   unfold verB
   rw [if_neg]
   rintro (h | h)
   · exact h3 h
   · exact h (at_46 h4 h5)
 rw [hB]
 have H2 := Hd (fun W => digits2_any s hm a b (by omega) W)
 have hle2 := cnt_le dgB (s.data.toList.drop (a + b + 2))
 rw [List.length_drop, len_list] at hle2
 clear hB h5 h3
 generalize cnt dgB (s.data.toList.drop (a + b + 2)) = c at *
 have h6 : (a : Int) + (b : Int) + 2 + (c : Int) ≤ (s.size : Int) := by omega
 have hext : s.extract 0 (a + b + 2 + c) = ofL (s.data.toList.take (a + b + 2 + c)) := by
   apply toList_injX
   rw [take_list, ByteArray.toList_eq]
 have HP := Hd (fun W => refParse_any (s.extract 0 (a + b + 2 + c)) Q55 W)
 cases ho : Sv.okS (s.extract 0 (a + b + 2 + c))
 · rw [parse_fail ho] at HP
   have HR : RowKit.Hid (verC s.data.toList (a + b + 2 + c) = 0) := Hd (by unfold verC; rw [← hext, ho]; rfl)
   clear ho hext
   go_enter Tryz.func241, Tryz.ntmps241
   go_wp2_with (first
    | (go_at_call 242; with_reducible refine (H0.out _).mono ?_; rintro e w1 ⟨rfl, rfl⟩)
    | (go_at_call 242; with_reducible refine (H1.out _).mono ?_; rintro e w1 ⟨rfl, rfl⟩)
    | (go_at_call 242; with_reducible refine (H2.out _).mono ?_; rintro e w1 ⟨rfl, rfl⟩)
    | (go_at_call 161; refine (HP.out _).mono ?_; rintro e w2 ⟨rfl, hb⟩))
   go_ret
   exact ⟨ret_int (by rw [HR.out]; rfl), hb.alloc hb.size _⟩
 · rw [parse_good ho] at HP
   have HR : RowKit.Hid (verC s.data.toList (a + b + 2 + c) = a + b + 2 + c) := Hd (by unfold verC; rw [← hext, ho]; rfl)
   clear ho hext
   go_enter Tryz.func241, Tryz.ntmps241
   go_wp2_with (first
    | (go_at_call 242; with_reducible refine (H0.out _).mono ?_; rintro e w1 ⟨rfl, rfl⟩)
    | (go_at_call 242; with_reducible refine (H1.out _).mono ?_; rintro e w1 ⟨rfl, rfl⟩)
    | (go_at_call 242; with_reducible refine (H2.out _).mono ?_; rintro e w1 ⟨rfl, rfl⟩)
    | (go_at_call 161; refine (HP.out _).mono ?_; rintro e w2 ⟨rfl, hb⟩))
   go_ret
   exact ⟨ret_int (by rw [HR.out]; omega), hb.alloc hb.size _⟩
theorem numberD_any (s : ByteArray) (hall : ∀ c ∈ s.data.toList, dgB c = true) (h18 : s.size ≤ 18) (w : World) : Calls Tryz.prog 243 #[.string s] w fun e w' => e = .returned (.int .i64 (Sv.val s.data.toList : Nat)) ∧ w = w' := by
 have HA := Hd hall
 clear hall
 go_enter Tryz.func243, Tryz.ntmps243
 go_wp2
 go_loop [3, 4] (fun n i => ∃ k : Nat, k ≤ s.size ∧ i = .int .i64 k ∧ n = .int .i64 (Sv.val (s.data.toList.take k) : Nat)) (fun _ i => s.size - (intOf i).toNat)
 case atStart => exact ⟨0, Nat.zero_le _, rfl, rfl⟩
 case round =>
  obtain ⟨k, hk, rfl, rfl⟩ := hrel
  by_cases hlt : k < s.size
  · have hki : (k : Int) < (s.size : Int) := by omega
    have hx := at_list s k hlt
    have hlk : k < s.data.toList.length := by rw [len_list]; exact hlt
    have hd := HA.out s[k] (List.mem_of_getElem? hx)
    have hv := Sv.val_take s.data.toList k hlk
    have hge : s.data.toList[k] = s[k] := by
     have := List.getElem?_eq_getElem hlk
     rw [hx] at this
     exact (Option.some.inj this).symm
    rw [hge] at hv
    have hb := Sv.val_lt (s.data.toList.take k) (fun c hc => by rw [← dg_is]; exact HA.out c (List.mem_of_mem_take hc))
    rw [List.length_take, len_list, Nat.min_eq_left hk] at hb
    have h10 : 10 ^ k ≤ 10 ^ 17 := Nat.pow_le_pow_right (by decide) (by omega)
    have h17 : (10 : Nat) ^ 17 = 100000000000000000 := by decide
    generalize Sv.val (s.data.toList.take k) = V at *
    have hVb : V ≤ 100000000000000000 := by omega
    rw [dg_is] at hd
    have hd1 : 48 ≤ s[k].toNat := (Sv.isDig_yes hd).1
    have hd2 : s[k].toNat ≤ 57 := (Sv.isDig_yes hd).2
    have HV := Hd hv
    clear hv hb h10 h17 hx hd hge
    go_wp2
    go_round
    case rel => exact ⟨k + 1, by omega, by go_num, by rw [HV.out]; go_num⟩
    case measure => simp [intOf]; omega
  · have hki : ¬ (k : Int) < (s.size : Int) := by omega
    obtain rfl : k = s.size := by omega
    have hfull : s.data.toList.take s.size = s.data.toList := List.take_of_length_le (by rw [len_list]; exact Nat.le_refl _)
    obtain ⟨V, hV⟩ : ∃ V, Sv.val s.data.toList = V := ⟨_, rfl⟩
    have HV := Hd hV
    rw [hfull, hV]
    clear hV hfull
    go_wp2
    go_ret
    exact ⟨ret_int (by rw [HV.out]), rfl⟩
theorem keep_one {s : ByteArray} {k : Nat} (hk : k < s.size) : s.extract k (k + 1) = ofL [s[k]] := by
 apply toList_injX
 rw [ByteArray.toList_eq, ByteArray.data_extract, Array.toList_extract, List.extract_eq_take_drop, ByteArray.toList_eq]
 rw [List.drop_eq_getElem_cons (by rw [len_list]; exact hk)]
 rw [Nat.add_sub_cancel_left]
 have hge : s.data.toList[k]'(by rw [len_list]; exact hk) = s[k] := by
  have h1 := List.getElem?_eq_getElem (l := s.data.toList) (i := k) (by rw [len_list]; exact hk)
  rw [at_list s k hk] at h1
  exact (Option.some.inj h1).symm
 rw [hge]
 rfl
theorem ofL_app (a b : List UInt8) : (ofL a) ++ (ofL b) = ofL (a ++ b) := by
 rw [str_add]
end Go.Proofs.YtmkjalnlldpdcaaGreatDoor
