
/- What an int's bytes say. -/
import Derived.Test.YtpedmkdpbdhenaaGreatDoorLg
import Derived.Lib.AtoiTie
namespace Go.Proofs.YtpedmkdpbdhenaaGreatDoor
open Go.RowKit
set_option linter.unusedSimpArgs false
set_option linter.unusedVariables false
theorem take_cnt (p : UInt8 → Bool) : ∀ l : List UInt8, l.take (cnt p l) = l.takeWhile p := by
  intro l
  unfold cnt
  induction l with
  | nil => rfl
  | cons c l ih =>
    rw [List.takeWhile_cons]
    split
    · simp [ih]
    · rfl
theorem takeW_all (p : UInt8 → Bool) : ∀ l : List UInt8, ∀ b ∈ l.takeWhile p, p b = true := by
  intro l
  induction l with
  | nil => intro b h; cases h
  | cons c l ih =>
    intro b h
    rw [List.takeWhile_cons] at h
    split at h
    · rename_i hc
      cases h with
      | head => exact hc
      | tail _ h => exact ih b h
    · cases h
theorem dg_val {b : UInt8} (h : dgB b = true) : Lib.digitVal b = some (b.toNat - 48) := by
  unfold dgB at h
  simp at h
  unfold Lib.digitVal
  rw [if_pos h]
theorem dec_all : ∀ (l : List UInt8) (acc : Nat), (∀ b ∈ l, dgB b = true) → ∃ m, Lib.decFrom acc l = some m := by
  intro l
  induction l with
  | nil => intro acc _; exact ⟨acc, rfl⟩
  | cons c l ih =>
    intro acc h
    obtain ⟨m, hm⟩ := ih (acc * 10 + (c.toNat - 48)) fun b hb => h b (List.mem_cons_of_mem _ hb)
    refine ⟨m, ?_⟩
    rw [Lib.decFrom, dg_val (h c (List.mem_cons_self ..))]
    exact hm
/-- The digits of an int. -/
def intD (l : List UInt8) : List UInt8 := l.take (intN l)
theorem intD_all (l : List UInt8) : ∀ b ∈ intD l, dgB b = true := by
  intro b hb
  unfold intD intN at hb
  split at hb
  · rename_i hz
    unfold zhB at hz
    cases l with
    | nil => simp at hz
    | cons c l =>
      simp at hz
      subst hz
      simp at hb
      subst hb
      rfl
  · rw [take_cnt] at hb
    exact takeW_all dgB l b hb
theorem intN_le (l : List UInt8) : intN l ≤ l.length := by
  unfold intN
  split
  · rename_i hz
    have := cnt_le dgB l
    have := zh_cnt hz
    omega
  · exact cnt_le dgB l
theorem intD_len (l : List UInt8) : (intD l).length = intN l := by
  unfold intD
  rw [List.length_take]
  have := intN_le l
  omega
theorem intD_dec {l : List UInt8} (h1 : intN l ≠ 0) (h2 : intN l ≤ 18) : ∃ m, Lib.decNat (intD l) = some m ∧ m < 9223372036854775808 := by
  obtain ⟨m, hm⟩ := dec_all (intD l) 0 (intD_all l)
  have hl := intD_len l
  have he : Lib.decNat (intD l) = some m := by
    unfold Lib.decNat
    rw [if_neg (by cases e : intD l with | nil => rw [e] at hl; simp at hl; omega | cons a b => simp), hm]
  exact ⟨m, he, Lib.decNat_small (by omega) he⟩
theorem intM_neg {l : List UInt8} (hp : Lib.hasPrefix l [45] = true) (h : intM l ≠ 0) : intM l = 1 + intN (l.drop 1) ∧ zhB (l.drop 1) = false ∧ intN (l.drop 1) ≠ 0 ∧ intN (l.drop 1) ≤ 18 := by
  unfold intM at h ⊢
  rw [hp] at h ⊢
  rw [if_pos rfl] at h ⊢
  cases hz : (zhB (l.drop 1) || decide (intN (l.drop 1) = 0) || decide (18 < intN (l.drop 1)))
  · rw [hz] at h
    simp only [Bool.or_eq_false_iff, decide_eq_false_iff_not] at hz
    exact ⟨rfl, hz.1.1, hz.1.2, by omega⟩
  · rw [hz] at h
    exact absurd rfl h
theorem intM_plain {l : List UInt8} (hp : Lib.hasPrefix l [45] = false) (h : intM l ≠ 0) : intM l = intN l ∧ intN l ≠ 0 ∧ intN l ≤ 18 := by
  unfold intM at h ⊢
  rw [hp] at h ⊢
  rw [if_neg (by simp)] at h ⊢
  cases hz : (decide (intN l = 0) || decide (18 < intN l))
  · rw [hz] at h
    simp at hz
    exact ⟨rfl, hz.1, hz.2⟩
  · rw [hz] at h
    exact absurd rfl h
/-- What the int at the beginning is. -/
def intV (l : List UInt8) : Int := if Lib.hasPrefix l [45] then -((Lib.decNat (intD (l.drop 1))).getD 0 : Nat) else ((Lib.decNat (intD l)).getD 0 : Nat)
theorem pre_cons {l : List UInt8} (hp : Lib.hasPrefix l [45] = true) : l = 45 :: l.drop 1 := by
  unfold Lib.hasPrefix at hp
  cases l with
  | nil => simp at hp
  | cons c l => simp at hp; subst hp; rfl
theorem intM_ok {l : List UInt8} (h : intM l ≠ 0) : Lib.atoiAll (l.take (intM l)) = .ok (intV l) := by
  cases hp : Lib.hasPrefix l [45]
  · obtain ⟨e1, e2, e3⟩ := intM_plain hp h
    rw [e1]
    obtain ⟨m, hm, hs⟩ := intD_dec e2 e3
    have hV : intV l = (m : Int) := by unfold intV; rw [hp, hm]; rfl
    rw [hV]
    show Lib.atoiAll (intD l) = _
    have hl := intD_len l
    have ha := intD_all l
    cases e : intD l with
    | nil => rw [e] at hl; simp at hl; omega
    | cons c r =>
      have hc := ha c (by rw [e]; exact List.mem_cons_self ..)
      unfold dgB at hc
      simp at hc
      rw [Lib.atoiAll_plain c r (by omega) (by omega), ← e, Lib.parseMag_short _ (by omega), hm]
      show (if 9223372036854775808 ≤ m then Lib.NumEnd.range else Lib.NumEnd.ok (m : Int)) = _
      rw [if_neg (by omega)]
  · obtain ⟨e1, e0, e2, e3⟩ := intM_neg hp h
    rw [e1]
    obtain ⟨m, hm, hs⟩ := intD_dec e2 e3
    have hV : intV l = -(m : Int) := by unfold intV; rw [hp, hm]; rfl
    rw [hV]
    have hl := intD_len (l.drop 1)
    have ht : l.take (1 + intN (l.drop 1)) = 45 :: intD (l.drop 1) := by
      rw [pre_cons hp, Nat.add_comm 1, List.take_succ_cons]
      rfl
    rw [ht, Lib.atoiAll_minus, Lib.parseMag_short _ (by omega), hm]
    show (if 9223372036854775808 < m then Lib.NumEnd.range else Lib.NumEnd.ok (-(m : Int))) = _
    rw [if_neg (by omega)]
end Go.Proofs.YtpedmkdpbdhenaaGreatDoor
