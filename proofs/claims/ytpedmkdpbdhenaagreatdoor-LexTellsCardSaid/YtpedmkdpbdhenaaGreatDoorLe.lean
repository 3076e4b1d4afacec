
/- Ints, as they are read. -/
import Derived.Test.YtpedmkdpbdhenaaGreatDoorLd
namespace Go.Proofs.YtpedmkdpbdhenaaGreatDoor
open Go.RowKit
set_option linter.unusedSimpArgs false
set_option linter.unusedVariables false
theorem trim_yes {s : ByteArray} (h : Lib.hasPrefix s.data.toList [45] = true) : Lib.trimPrefix s.data.toList [45] = s.data.toList.drop 1 ∧ s.data.toList.head? = some 45 := by
  unfold Lib.trimPrefix
  rw [h]
  refine ⟨rfl, ?_⟩
  unfold Lib.hasPrefix at h
  cases e : s.data.toList with
  | nil => rw [e] at h; simp at h
  | cons c l => rw [e] at h; simp at h; simp [h]
theorem trim_no {s : ByteArray} (h : Lib.hasPrefix s.data.toList [45] = false) : Lib.trimPrefix s.data.toList [45] = s.data.toList ∧ s.data.toList.head? ≠ some 45 := by
  unfold Lib.trimPrefix
  rw [h]
  refine ⟨rfl, ?_⟩
  unfold Lib.hasPrefix at h
  cases e : s.data.toList with
  | nil => simp
  | cons c l =>
    rw [e] at h
    intro h1
    simp at h1
    subst h1
    simp at h
/-- A 0 ahead. -/
def zhB (l : List UInt8) : Bool := l.head? == some 48
def intN (l : List UInt8) : Nat := if zhB l then 1 else cnt dgB l
def intM (l : List UInt8) : Nat :=
  if Lib.hasPrefix l [45] then (if zhB (l.drop 1) || decide (intN (l.drop 1) = 0) || decide (18 < intN (l.drop 1)) then 0 else 1 + intN (l.drop 1))
  else (if decide (intN l = 0) || decide (18 < intN l) then 0 else intN l)
theorem take_list (s : ByteArray) (k : Nat) : (s.extract 0 k).toList = s.data.toList.take k := by
  rw [ByteArray.toList_eq, ByteArray.data_extract, Array.toList_extract, List.extract_eq_take_drop]
  simp
theorem ext_no {s : ByteArray} (h : s.data.toList.head? ≠ some 45) (k : Nat) : ((s.extract 0 k).toList == [45, 48]) = false := by
  rw [beq_eq_false_iff_ne, take_list]
  intro e
  apply h
  cases e1 : s.data.toList with
  | nil => rw [e1] at e; simp at e
  | cons c l =>
    rw [e1] at e
    cases k with
    | zero => simp at e
    | succ k => simp at e; simp [e.1]
theorem head_at {s : ByteArray} (h : 0 < s.size) : s.data.toList.head? = some s[0] := by
  rw [List.head?_eq_getElem?, at_list s 0 h]
theorem zh_at {s : ByteArray} (h : 0 < s.size) : zhB s.data.toList = ((s[0].toNat : Int) == 48) := by
  unfold zhB
  rw [head_at h]
  generalize s[0] = c
  have hc : c.toNat < 256 := c.toNat_lt
  by_cases e : c = 48
  · subst e; rfl
  · have e1 : ((c.toNat : Int) == 48) = false := by
      rw [beq_eq_false_iff_ne]
      intro e2
      apply e
      apply UInt8.toNat_inj.1
      show c.toNat = 48
      omega
    rw [e1]
    simpa using e
theorem zh_cnt {l : List UInt8} (h : zhB l = true) : 1 ≤ cnt dgB l := by
  unfold zhB at h
  cases l with
  | nil => simp at h
  | cons c l =>
    simp at h
    subst h
    unfold cnt
    rw [List.takeWhile_cons]
    simp [dgB]
theorem cnt_pos {p : UInt8 → Bool} {l : List UInt8} (h : 1 ≤ cnt p l) : l ≠ [] := by
  intro e
  subst e
  simp [cnt] at h
set_option maxHeartbeats 4000000 in
set_option maxRecDepth 100000 in
theorem intBytes_no (s : ByteArray) (hm : s.size ≤ 4194304) (hp : Lib.hasPrefix s.data.toList [45] = false) (w : World) :
    Calls Tryz.prog 60 #[.string s] w fun e w' => e = .returned (.int .i64 (intM s.data.toList : Nat)) ∧ w = w' := by
  have HT := Lib.hid (fun W => (Tryz.strings_TrimPrefix s ⟨#[45]⟩ W).mono fun e w' (h : _ ∧ _) => (⟨by rw [h.1]; exact congrArg (fun l : List UInt8 => Ending.returned (.string ⟨l.toArray⟩)) (trim_no hp).1, h.2.symm⟩ : e = .returned (.string ⟨s.data.toList.toArray⟩) ∧ W = w'))
  have hss : (⟨s.data.toList.toArray⟩ : ByteArray) = s := by simp
  rw [hss] at HT
  clear hss
  have HE := Lib.hid (fun k => ext_no (trim_no hp).2 k)
  have hM : intM s.data.toList = (if decide (intN s.data.toList = 0) || decide (18 < intN s.data.toList) then 0 else intN s.data.toList) := by unfold intM; rw [hp]; rfl
  rw [hM]
  clear hM hp
  have hle := cnt_le dgB s.data.toList
  rw [len_list] at hle
  obtain ⟨N, hN⟩ : ∃ N, cnt dgB s.data.toList = N := ⟨_, rfl⟩
  have HC := Lib.hid (fun W => countDigit s hm W)
  rw [hN] at hle HC
  by_cases h0 : N = 0
  · have hz : zhB s.data.toList = false := by
      cases hz : zhB s.data.toList
      · rfl
      · have := zh_cnt hz; omega
    have hi : intN s.data.toList = N := by unfold intN; rw [hz, hN]; rfl
    rw [hi]
    clear hi hN hz
    subst h0
    go_enter Tryz.func60, Tryz.ntmps60
    go_wp2_with (first
      | (go_at_call 53; ((with_reducible refine (HT.out _).mono ?_); rintro e w1 ⟨rfl, rfl⟩))
      | (go_at_call 29; ((with_reducible refine (HC.out _).mono ?_); rintro e w1 ⟨rfl, rfl⟩)))
    go_ret
    exact ⟨rfl, rfl⟩
  have hsz : 0 < s.size := by omega
  have n0 : ((N : Int) == 0) = false := by rw [beq_eq_false_iff_ne]; omega
  have hsi : (0 : Int) < (s.size : Int) := by omega
  have hNi : (0 : Int) < (N : Int) := by omega
  have hz := zh_at hsz
  cases hb : ((s[0].toNat : Int) == 48)
  · rw [hb] at hz
    have hi : intN s.data.toList = N := by unfold intN; rw [hz, hN]; rfl
    rw [hi]
    clear hi hN hz
    have he := HE.out N
    by_cases h18 : 18 < N
    · have d18 : decide ((18 : Int) < (N : Int)) = true := by simp; omega
      have hr : (if decide (N = 0) || decide (18 < N) then 0 else N) = 0 := by simp [h18]
      rw [hr]
      clear hr
      go_enter Tryz.func60, Tryz.ntmps60
      go_wp2_with (first
        | (go_at_call 53; ((with_reducible refine (HT.out _).mono ?_); rintro e w1 ⟨rfl, rfl⟩))
        | (go_at_call 29; ((with_reducible refine (HC.out _).mono ?_); rintro e w1 ⟨rfl, rfl⟩)))
      go_ret
      exact ⟨rfl, rfl⟩
    · have d18 : decide ((18 : Int) < (N : Int)) = false := by simp; omega
      have hr : (if decide (N = 0) || decide (18 < N) then 0 else N) = N := by simp [h18, h0]
      rw [hr]
      clear hr
      go_enter Tryz.func60, Tryz.ntmps60
      go_wp2_with (first
        | (go_at_call 53; ((with_reducible refine (HT.out _).mono ?_); rintro e w1 ⟨rfl, rfl⟩))
        | (go_at_call 29; ((with_reducible refine (HC.out _).mono ?_); rintro e w1 ⟨rfl, rfl⟩)))
      go_ret
      exact ⟨rfl, rfl⟩
  · rw [hb] at hz
    have hi : intN s.data.toList = 1 := by unfold intN; rw [hz]; rfl
    rw [hi]
    clear hi hN hz
    have he := HE.out 1
    have hsi1 : (1 : Int) ≤ (s.size : Int) := by omega
    go_enter Tryz.func60, Tryz.ntmps60
    go_wp2_with (first
      | (go_at_call 53; ((with_reducible refine (HT.out _).mono ?_); rintro e w1 ⟨rfl, rfl⟩))
      | (go_at_call 29; ((with_reducible refine (HC.out _).mono ?_); rintro e w1 ⟨rfl, rfl⟩)))
    go_ret
    exact ⟨rfl, rfl⟩
end Go.Proofs.YtpedmkdpbdhenaaGreatDoor
