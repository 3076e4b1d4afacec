/- Contracts: the document's number. -/
import Derived.Test.YtmgnbpgcbehidaaDoorA8
import Derived.Test.YtmgnbpgcbehidaaDoorC1
import Derived.Outline
namespace Go.Proofs.YtmgnbpgcbehidaaDoor
open Go.RowKit
namespace Sv
def run (D : List UInt8) : List UInt8 := D.takeWhile isDig
def NumR (D : List UInt8) : Prop := run D ≠ [] ∧ (run D).length ≤ 6 ∧ ¬ (D.head? = some 48 ∧ 1 < (run D).length)
instance (D : List UInt8) : Decidable (NumR D) := by unfold NumR; exact inferInstance
def rv (D : List UInt8) : Int := if NumR D then (val (run D) : Nat) else 0
def rp (i : Nat) (D : List UInt8) : Int := if NumR D then ((i + (run D).length : Nat) : Int) else -1
theorem r_no {D : List UInt8} (h : ¬ NumR D) (i : Nat) : rv D = 0 ∧ rp i D = -1 := by unfold rv rp; rw [if_neg h, if_neg h]; exact ⟨rfl, rfl⟩
theorem r_yes {D : List UInt8} (h : NumR D) (i : Nat) : rv D = (val (run D) : Nat) ∧ rp i D = ((i + (run D).length : Nat) : Int) := by unfold rv rp; rw [if_pos h, if_pos h]; exact ⟨rfl, rfl⟩
theorem run_eq {D : List UInt8} {j : Nat} (h : ∀ c ∈ D.take j, isDig c = true) (hj : j = D.length ∨ ∃ h : j < D.length, isDig D[j] = false) : run D = D.take j := by
  unfold run
  have e : D = D.take j ++ D.drop j := (List.take_append_drop j D).symm
  conv => lhs; rw [e]
  rw [List.takeWhile_append_of_pos h]
  have e2 : (D.drop j).takeWhile isDig = [] := by
    rcases hj with rfl | ⟨hl, hd⟩
    · simp
    · rw [List.drop_eq_getElem_cons hl, List.takeWhile_cons, hd]; rfl
  rw [e2, List.append_nil]
theorem run_ge {D : List UInt8} {j : Nat} (h : ∀ c ∈ D.take j, isDig c = true) (hj : j ≤ D.length) : j ≤ (run D).length := by
  unfold run
  have e : D = D.take j ++ D.drop j := (List.take_append_drop j D).symm
  conv => rhs; rw [e]
  rw [List.takeWhile_append_of_pos h, List.length_append, List.length_take]
  omega
theorem foldl_lt (l : List UInt8) (h : ∀ c ∈ l, isDig c = true) : ∀ a, l.foldl (fun n c => 10 * n + (c.toNat - 48)) a + 1 ≤ (a + 1) * 10 ^ l.length := by
  induction l with
  | nil => intro a; simp
  | cons c l ih =>
    intro a
    have h2 := isDig_yes (h c (by simp))
    have h1 := ih (fun x hx => h x (List.mem_cons_of_mem _ hx)) (10 * a + (c.toNat - 48))
    have h3 : (10 * a + (c.toNat - 48) + 1) * 10 ^ l.length ≤ ((a + 1) * 10) * 10 ^ l.length := Nat.mul_le_mul_right _ (by omega)
    rw [List.length_cons, Nat.pow_succ, Nat.mul_comm (10 ^ l.length) 10, ← Nat.mul_assoc]
    exact Nat.le_trans h1 h3
theorem val_lt (l : List UInt8) (h : ∀ c ∈ l, isDig c = true) : val l + 1 ≤ 10 ^ l.length := by
  have := foldl_lt l h 0
  simpa [val] using this
end Sv
abbrev nr (s : ByteArray) (i : Nat) : Value := .tuple #[.int .i64 (Sv.rv (s.data.toList.drop i)), .int .i64 (Sv.rp i (s.data.toList.drop i))]
set_option maxRecDepth 100000 in
set_option maxHeartbeats 4000000 in
theorem number_any (s : ByteArray) (i : Nat) (hi : i ≤ s.size) (hm : s.size ≤ 4194304) (w : World) : Calls Tryd.prog 21 #[.string s, .int .i64 i] w fun e w' => e = .returned (nr s i) ∧ w = w' := by
  have HL : RowKit.Hid ((s.data.toList.drop i).length = s.size - i) := Lib.hid (by simp)
  have HE : RowKit.Hid (∀ k (h : k < s.size) (h1 : i ≤ k) (h2 : k - i < (s.data.toList.drop i).length), (s.data.toList.drop i)[k - i] = s[k]) := Lib.hid (fun k h h1 h2 => by
    rw [List.getElem_drop]
    have e : i + (k - i) = k := by omega
    have hk : k < s.data.toList.length := by rw [data_len]; exact h
    rw [← data_at s k h hk]
    congr 1)
  have HN : RowKit.Hid (nr s i = .tuple #[.int .i64 (Sv.rv (s.data.toList.drop i)), .int .i64 (Sv.rp i (s.data.toList.drop i))]) := Lib.hid rfl
  generalize hD : s.data.toList.drop i = D at *
  generalize hnr : nr s i = NR at *
  clear hnr hD
  go_enter Tryd.func21, Tryd.ntmps21
  go_wp2
  go_loop [6, 7] (fun n q => ∃ k : Nat, i ≤ k ∧ k ≤ s.size ∧ k ≤ i + 7 ∧ q = .int .i64 k ∧ n = .int .i64 (Sv.val (D.take (k - i)) : Nat) ∧ (∀ c ∈ D.take (k - i), Sv.isDig c = true)) (fun _ q => s.size - (intOf q).toNat)
  case atStart => exact ⟨i, Nat.le_refl _, hi, by omega, rfl, by simp [Sv.val_nil], by simp⟩
  case round =>
    obtain ⟨k, hik, hk, hk7, rfl, rfl, hd⟩ := hrel
    have HD := Lib.hid hd
    clear hd
    have HVL : RowKit.Hid (Sv.val (D.take (k - i)) + 1 ≤ 10 ^ (k - i)) := Lib.hid (by
      have h := Sv.val_lt _ HD.out
      rw [List.length_take, HL.out, Nat.min_eq_left (by omega)] at h
      exact h)
    have HVB : RowKit.Hid (Sv.val (D.take (k - i)) < 10000000) := Lib.hid (by
      have h := HVL.out
      have h2 : 10 ^ (k - i) ≤ 10 ^ 7 := Nat.pow_le_pow_right (by omega) (by omega)
      omega)
    by_cases hlt : k < s.size
    · by_cases h7 : k < i + 7
      · have d2 : decide ((k : Int) < (i : Int) + 7) = true := by simp; omega
        have hcl : s[k].toNat < 256 := s[k].toNat_lt
        rcases Bool.eq_false_or_eq_true (Sv.isDig s[k]) with g | g
        · obtain ⟨g1, g2⟩ := Sv.isDig_yes g
          have G := Lib.hid g
          clear g
          have c1 : decide (48 ≤ (s[k].toNat : Int)) = true := by simp; omega
          have c2 : decide ((s[k].toNat : Int) ≤ 57) = true := by simp; omega
          have HT : RowKit.Hid (D.take (k + 1 - i) = D.take (k - i) ++ [s[k]]) := Lib.hid (by
            have hl : k - i < D.length := by rw [HL.out]; omega
            have e : k + 1 - i = (k - i) + 1 := by omega
            rw [e, Sv.take_snoc _ _ hl, HE.out k hlt hik hl])
          have HV : RowKit.Hid (Sv.val (D.take (k + 1 - i)) = 10 * Sv.val (D.take (k - i)) + (s[k].toNat - 48)) := Lib.hid (by rw [HT.out, Sv.val_snoc])
          have hvb := HVB.out
          generalize hvv : Sv.val (D.take (k - i)) = v at *
          clear hvv HVL HVB
          go_wp2
          go_round
          case rel =>
            refine ⟨k + 1, by omega, by omega, by omega, by go_num, ?_, ?_⟩
            · rw [HV.out]; congr 1; omega
            · intro c hc
              rw [HT.out] at hc
              rcases List.mem_append.1 hc with hc | hc
              · exact HD.out c hc
              · rw [List.mem_singleton.1 hc]; exact G.out
          case measure => simp [intOf]; omega
        · have HRUN : RowKit.Hid (Sv.run D = D.take (k - i)) := Lib.hid (Sv.run_eq HD.out (.inr ⟨by rw [HL.out]; omega, by rw [HE.out k hlt hik]; exact g⟩))
          rcases Sv.isDig_no g with g1 | ⟨g1, g2⟩
          · clear g
            have c1 : decide (48 ≤ (s[k].toNat : Int)) = false := by simp; omega
            have HRL : RowKit.Hid ((Sv.run D).length = k - i) := Lib.hid (by rw [HRUN.out, List.length_take, HL.out]; omega)
            have d6 : decide ((i : Int) + 6 < (k : Int)) = false := by simp; omega
            by_cases hki : k = i
            · have e0 : ((k : Int) == (i : Int)) = true := by simp; omega
              have HKI := Lib.hid hki
              clear hki
              go_wp2
              go_ret2
              have hno := Sv.r_no (D := D) (fun h => h.1 (List.length_eq_zero_iff.1 (by rw [HRL.out]; have := HKI.out; omega))) i
              exact ⟨by rw [HN.out, hno.1, hno.2]; rfl, rfl⟩
            · have e0 : ((k : Int) == (i : Int)) = false := by simp; omega
              have HKI := Lib.hid hki
              clear hki
              have HNE : RowKit.Hid (Sv.run D ≠ []) := Lib.hid (fun h => by have h2 := HRL.out; rw [h] at h2; simp at h2; have := HKI.out; omega)
              by_cases hk1 : k ≤ i + 1
              · have d1 : decide ((i : Int) + 1 < (k : Int)) = false := by simp; omega
                have HK1 := Lib.hid hk1
                clear hk1
                go_wp2
                go_ret2
                have hyes := Sv.r_yes (D := D) ⟨HNE.out, by rw [HRL.out]; have := HK1.out; omega, fun h => by have h2 := h.2; rw [HRL.out] at h2; have := HK1.out; omega⟩ i
                have hp : Sv.rp i D = (k : Int) := by rw [hyes.2, HRL.out]; omega
                have hv : Sv.rv D = (Sv.val (D.take (k - i)) : Nat) := by rw [hyes.1, HRUN.out]
                exact ⟨by rw [HN.out, hp, hv]; rfl, rfl⟩
              · have d1 : decide ((i : Int) + 1 < (k : Int)) = true := by simp; omega
                have HK1 := Lib.hid hk1
                have his : i < s.size := by omega
                have HH : RowKit.Hid (D.head? = some s[i]) := Lib.hid (by
                  have hl : 0 < D.length := by rw [HL.out]; omega
                  have h := HE.out i his (Nat.le_refl _) (by rw [HL.out]; omega)
                  rw [Sv.head_at hl, ← h]
                  congr 2
                  omega)
                clear hk1
                by_cases hz : s[i].toNat = 48
                · have e8 : ((s[i].toNat : Int) == 48) = true := by rw [hz]; rfl
                  have HZ := Lib.hid hz
                  clear hz
                  go_wp2
                  go_ret2
                  have hno := Sv.r_no (D := D) (fun h => h.2.2 ⟨by rw [HH.out]; congr 1; exact UInt8.toNat_inj.1 HZ.out, by rw [HRL.out]; have := HK1.out; omega⟩) i
                  exact ⟨by rw [HN.out, hno.1, hno.2]; rfl, rfl⟩
                · have e8 : ((s[i].toNat : Int) == 48) = false := by simp; omega
                  have HZ := Lib.hid hz
                  clear hz
                  go_wp2
                  go_ret2
                  have hyes := Sv.r_yes (D := D) ⟨HNE.out, by rw [HRL.out]; omega, fun h => by have h2 := h.1; rw [HH.out] at h2; exact HZ.out (by rw [Option.some.inj h2]; rfl)⟩ i
                  have hp : Sv.rp i D = (k : Int) := by rw [hyes.2, HRL.out]; omega
                  have hv : Sv.rv D = (Sv.val (D.take (k - i)) : Nat) := by rw [hyes.1, HRUN.out]
                  exact ⟨by rw [HN.out, hp, hv]; rfl, rfl⟩
          · clear g
            have c1 : decide (48 ≤ (s[k].toNat : Int)) = true := by simp; omega
            have c2 : decide ((s[k].toNat : Int) ≤ 57) = false := by simp; omega
            have HRL : RowKit.Hid ((Sv.run D).length = k - i) := Lib.hid (by rw [HRUN.out, List.length_take, HL.out]; omega)
            have d6 : decide ((i : Int) + 6 < (k : Int)) = false := by simp; omega
            by_cases hki : k = i
            · have e0 : ((k : Int) == (i : Int)) = true := by simp; omega
              have HKI := Lib.hid hki
              clear hki
              go_wp2
              go_ret2
              have hno := Sv.r_no (D := D) (fun h => h.1 (List.length_eq_zero_iff.1 (by rw [HRL.out]; have := HKI.out; omega))) i
              exact ⟨by rw [HN.out, hno.1, hno.2]; rfl, rfl⟩
            · have e0 : ((k : Int) == (i : Int)) = false := by simp; omega
              have HKI := Lib.hid hki
              clear hki
              have HNE : RowKit.Hid (Sv.run D ≠ []) := Lib.hid (fun h => by have h2 := HRL.out; rw [h] at h2; simp at h2; have := HKI.out; omega)
              by_cases hk1 : k ≤ i + 1
              · have d1 : decide ((i : Int) + 1 < (k : Int)) = false := by simp; omega
                have HK1 := Lib.hid hk1
                clear hk1
                go_wp2
                go_ret2
                have hyes := Sv.r_yes (D := D) ⟨HNE.out, by rw [HRL.out]; have := HK1.out; omega, fun h => by have h2 := h.2; rw [HRL.out] at h2; have := HK1.out; omega⟩ i
                have hp : Sv.rp i D = (k : Int) := by rw [hyes.2, HRL.out]; omega
                have hv : Sv.rv D = (Sv.val (D.take (k - i)) : Nat) := by rw [hyes.1, HRUN.out]
                exact ⟨by rw [HN.out, hp, hv]; rfl, rfl⟩
              · have d1 : decide ((i : Int) + 1 < (k : Int)) = true := by simp; omega
                have HK1 := Lib.hid hk1
                have his : i < s.size := by omega
                have HH : RowKit.Hid (D.head? = some s[i]) := Lib.hid (by
                  have hl : 0 < D.length := by rw [HL.out]; omega
                  have h := HE.out i his (Nat.le_refl _) (by rw [HL.out]; omega)
                  rw [Sv.head_at hl, ← h]
                  congr 2
                  omega)
                clear hk1
                by_cases hz : s[i].toNat = 48
                · have e8 : ((s[i].toNat : Int) == 48) = true := by rw [hz]; rfl
                  have HZ := Lib.hid hz
                  clear hz
                  go_wp2
                  go_ret2
                  have hno := Sv.r_no (D := D) (fun h => h.2.2 ⟨by rw [HH.out]; congr 1; exact UInt8.toNat_inj.1 HZ.out, by rw [HRL.out]; have := HK1.out; omega⟩) i
                  exact ⟨by rw [HN.out, hno.1, hno.2]; rfl, rfl⟩
                · have e8 : ((s[i].toNat : Int) == 48) = false := by simp; omega
                  have HZ := Lib.hid hz
                  clear hz
                  go_wp2
                  go_ret2
                  have hyes := Sv.r_yes (D := D) ⟨HNE.out, by rw [HRL.out]; omega, fun h => by have h2 := h.1; rw [HH.out] at h2; exact HZ.out (by rw [Option.some.inj h2]; rfl)⟩ i
                  have hp : Sv.rp i D = (k : Int) := by rw [hyes.2, HRL.out]; omega
                  have hv : Sv.rv D = (Sv.val (D.take (k - i)) : Nat) := by rw [hyes.1, HRUN.out]
                  exact ⟨by rw [HN.out, hp, hv]; rfl, rfl⟩
      · have d2 : decide ((k : Int) < (i : Int) + 7) = false := by simp; omega
        have d6 : decide ((i : Int) + 6 < (k : Int)) = true := by simp; omega
        have e0 : ((k : Int) == (i : Int)) = false := by simp; omega
        have H7 := Lib.hid h7
        clear h7
        go_wp2
        go_ret2
        have hno := Sv.r_no (D := D) (fun h => by
          have h1 := Sv.run_ge (D := D) (j := k - i) HD.out (by rw [HL.out]; omega)
          have h2 := h.2.1
          have := H7.out
          omega) i
        exact ⟨by rw [HN.out, hno.1, hno.2]; rfl, rfl⟩
    · have HRUN : RowKit.Hid (Sv.run D = D.take (k - i)) := Lib.hid (Sv.run_eq HD.out (.inl (by rw [HL.out]; omega)))
      by_cases h7 : k < i + 7
      · have HX := Lib.hid h7
        have HRL : RowKit.Hid ((Sv.run D).length = k - i) := Lib.hid (by rw [HRUN.out, List.length_take, HL.out]; omega)
        have d6 : decide ((i : Int) + 6 < (k : Int)) = false := by simp; omega
        by_cases hki : k = i
        · have e0 : ((k : Int) == (i : Int)) = true := by simp; omega
          have HKI := Lib.hid hki
          clear hki
          go_wp2
          go_ret2
          have hno := Sv.r_no (D := D) (fun h => h.1 (List.length_eq_zero_iff.1 (by rw [HRL.out]; have := HKI.out; omega))) i
          exact ⟨by rw [HN.out, hno.1, hno.2]; rfl, rfl⟩
        · have e0 : ((k : Int) == (i : Int)) = false := by simp; omega
          have HKI := Lib.hid hki
          clear hki
          have HNE : RowKit.Hid (Sv.run D ≠ []) := Lib.hid (fun h => by have h2 := HRL.out; rw [h] at h2; simp at h2; have := HKI.out; omega)
          by_cases hk1 : k ≤ i + 1
          · have d1 : decide ((i : Int) + 1 < (k : Int)) = false := by simp; omega
            have HK1 := Lib.hid hk1
            clear hk1
            go_wp2
            go_ret2
            have hyes := Sv.r_yes (D := D) ⟨HNE.out, by rw [HRL.out]; have := HK1.out; omega, fun h => by have h2 := h.2; rw [HRL.out] at h2; have := HK1.out; omega⟩ i
            have hp : Sv.rp i D = (k : Int) := by rw [hyes.2, HRL.out]; omega
            have hv : Sv.rv D = (Sv.val (D.take (k - i)) : Nat) := by rw [hyes.1, HRUN.out]
            exact ⟨by rw [HN.out, hp, hv]; rfl, rfl⟩
          · have d1 : decide ((i : Int) + 1 < (k : Int)) = true := by simp; omega
            have HK1 := Lib.hid hk1
            have his : i < s.size := by omega
            have HH : RowKit.Hid (D.head? = some s[i]) := Lib.hid (by
              have hl : 0 < D.length := by rw [HL.out]; omega
              have h := HE.out i his (Nat.le_refl _) (by rw [HL.out]; omega)
              rw [Sv.head_at hl, ← h]
              congr 2
              omega)
            clear hk1
            by_cases hz : s[i].toNat = 48
            · have e8 : ((s[i].toNat : Int) == 48) = true := by rw [hz]; rfl
              have HZ := Lib.hid hz
              clear hz
              go_wp2
              go_ret2
              have hno := Sv.r_no (D := D) (fun h => h.2.2 ⟨by rw [HH.out]; congr 1; exact UInt8.toNat_inj.1 HZ.out, by rw [HRL.out]; have := HK1.out; omega⟩) i
              exact ⟨by rw [HN.out, hno.1, hno.2]; rfl, rfl⟩
            · have e8 : ((s[i].toNat : Int) == 48) = false := by simp; omega
              have HZ := Lib.hid hz
              clear hz
              go_wp2
              go_ret2
              have hyes := Sv.r_yes (D := D) ⟨HNE.out, by rw [HRL.out]; omega, fun h => by have h2 := h.1; rw [HH.out] at h2; exact HZ.out (by rw [Option.some.inj h2]; rfl)⟩ i
              have hp : Sv.rp i D = (k : Int) := by rw [hyes.2, HRL.out]; omega
              have hv : Sv.rv D = (Sv.val (D.take (k - i)) : Nat) := by rw [hyes.1, HRUN.out]
              exact ⟨by rw [HN.out, hp, hv]; rfl, rfl⟩
      · have d6 : decide ((i : Int) + 6 < (k : Int)) = true := by simp; omega
        have e0 : ((k : Int) == (i : Int)) = false := by simp; omega
        have H7 := Lib.hid h7
        clear h7
        go_wp2
        go_ret2
        have hno := Sv.r_no (D := D) (fun h => by
          have h1 := Sv.run_ge (D := D) (j := k - i) HD.out (by rw [HL.out]; omega)
          have h2 := h.2.1
          have := H7.out
          omega) i
        exact ⟨by rw [HN.out, hno.1, hno.2]; rfl, rfl⟩
end Go.Proofs.YtmgnbpgcbehidaaDoor
