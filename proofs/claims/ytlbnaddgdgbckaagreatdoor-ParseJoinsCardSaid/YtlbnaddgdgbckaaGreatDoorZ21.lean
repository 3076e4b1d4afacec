/- Texts in a row: Lf Lg. -/
import Derived.Test.YtlbnaddgdgbckaaGreatDoorZ20
/- Ints below 0, as they are read. -/
namespace Go.Proofs.YtlbnaddgdgbckaaGreatDoor
open Go.RowKit
set_option linter.unusedSimpArgs false
set_option linter.unusedVariables false
theorem ext_neg {s : ByteArray} {D : List UInt8} (h : s.data.toList = 45 :: D) (k : Nat) : ((s.extract 0 (1 + k)).toList == [45, 48]) = (D.take k == [48]) := by
  rw [take_list, h, Nat.add_comm 1 k, List.take_succ_cons]
  rfl
theorem take_zh {D : List UInt8} (h : zhB D = true) : (D.take 1 == [48]) = true := by
  unfold zhB at h
  cases D with
  | nil => simp at h
  | cons c l => simp at h; subst h; rfl
theorem take_nz {D : List UInt8} (h : zhB D = false) (k : Nat) : (D.take k == [48]) = false := by
  unfold zhB at h
  rw [beq_eq_false_iff_ne]
  intro e
  cases D with
  | nil => simp at e
  | cons c l =>
    cases k with
    | zero => simp at e
    | succ k => simp at e; simp [e.1] at h
set_option maxHeartbeats 4000000 in
set_option maxRecDepth 100000 in
theorem intBytes_neg (s : ByteArray) (hm : s.size ≤ 4194304) (hp : Lib.hasPrefix s.data.toList [45] = true) (w : World) :
    Calls Tryz.prog 112 #[.string s] w fun e w' => e = .returned (.int .i64 (intM s.data.toList : Nat)) ∧ w = w' := by
  have HT := Lib.hid (fun W => (Tryz.strings_TrimPrefix s ⟨#[45]⟩ W).mono fun e w' (h : _ ∧ _) => (⟨by rw [h.1]; exact congrArg (fun l : List UInt8 => Ending.returned (.string ⟨l.toArray⟩)) (trim_yes hp).1, h.2.symm⟩ : e = .returned (.string ⟨(s.data.toList.drop 1).toArray⟩) ∧ W = w'))
  have hcons : s.data.toList = 45 :: s.data.toList.drop 1 := by
    have h1 := (trim_yes hp).2
    cases e : s.data.toList with
    | nil => rw [e] at h1; cases h1
    | cons c l => rw [e] at h1; cases h1; rfl
  have hM : intM s.data.toList = (if zhB (s.data.toList.drop 1) || decide (intN (s.data.toList.drop 1) = 0) || decide (18 < intN (s.data.toList.drop 1)) then 0 else 1 + intN (s.data.toList.drop 1)) := by unfold intM; rw [hp]; rfl
  rw [hM]
  clear hM hp
  have HE := Lib.hid (fun k => ext_neg hcons k)
  have hln : s.data.toList.length = 1 + (s.data.toList.drop 1).length := by
    have h := congrArg List.length hcons
    rw [List.length_cons] at h
    omega
  rw [len_list] at hln
  clear hcons
  obtain ⟨D, hD⟩ : ∃ D : ByteArray, D.data.toList = s.data.toList.drop 1 := ⟨⟨(s.data.toList.drop 1).toArray⟩, rfl⟩
  have hDD : (⟨(s.data.toList.drop 1).toArray⟩ : ByteArray) = D := by rw [← hD]
  rw [hDD] at HT
  rw [← hD] at HE hln ⊢
  rw [len_list] at hln
  clear hDD hD
  have hsub : (s.size : Int) - (D.size : Int) = 1 := by omega
  have hle := cnt_le dgB D.data.toList
  rw [len_list] at hle
  obtain ⟨N, hN⟩ : ∃ N, cnt dgB D.data.toList = N := ⟨_, rfl⟩
  have HC := Lib.hid (fun W => countDigit D (by omega) W)
  rw [hN] at hle HC
  by_cases h0 : N = 0
  · have hz : zhB D.data.toList = false := by
      cases hz : zhB D.data.toList
      · rfl
      · have := zh_cnt hz; omega
    have hi : intN D.data.toList = N := by unfold intN; rw [hz, hN]; rfl
    rw [hi, hz]
    clear hi hN hz
    subst h0
    go_enter Tryz.func112, Tryz.ntmps112
    go_wp2_with (first
      | (go_at_call 105; ((with_reducible refine (HT.out _).mono ?_); rintro e w1 ⟨rfl, rfl⟩))
      | (go_at_call 81; ((with_reducible refine (HC.out _).mono ?_); rintro e w1 ⟨rfl, rfl⟩)))
    go_ret
    exact ⟨rfl, rfl⟩
  have hsz : 0 < D.size := by omega
  have n0 : ((N : Int) == 0) = false := by rw [beq_eq_false_iff_ne]; omega
  have hsi : (0 : Int) < (D.size : Int) := by omega
  have hNi : (0 : Int) < (N : Int) := by omega
  have hz := zh_at hsz
  cases hb : ((D[0].toNat : Int) == 48)
  · rw [hb] at hz
    have hi : intN D.data.toList = N := by unfold intN; rw [hz, hN]; rfl
    rw [hi, hz]
    have he := HE.out N
    rw [take_nz hz] at he
    clear hi hN hz
    have hcast : (1 : Int) + (N : Int) ≤ (s.size : Int) := by omega
    by_cases h18 : 18 < N
    · have d18 : decide ((18 : Int) < (N : Int)) = true := by simp; omega
      have hr : (if false || decide (N = 0) || decide (18 < N) then 0 else 1 + N) = 0 := by simp [h18]
      rw [hr]
      clear hr
      go_enter Tryz.func112, Tryz.ntmps112
      go_wp2_with (first
        | (go_at_call 105; ((with_reducible refine (HT.out _).mono ?_); rintro e w1 ⟨rfl, rfl⟩))
        | (go_at_call 81; ((with_reducible refine (HC.out _).mono ?_); rintro e w1 ⟨rfl, rfl⟩)))
      go_ret
      exact ⟨rfl, rfl⟩
    · have d18 : decide ((18 : Int) < (N : Int)) = false := by simp; omega
      have hr : (if false || decide (N = 0) || decide (18 < N) then 0 else 1 + N) = 1 + N := by simp [h18, h0]
      rw [hr]
      clear hr
      go_enter Tryz.func112, Tryz.ntmps112
      go_wp2_with (first
        | (go_at_call 105; ((with_reducible refine (HT.out _).mono ?_); rintro e w1 ⟨rfl, rfl⟩))
        | (go_at_call 81; ((with_reducible refine (HC.out _).mono ?_); rintro e w1 ⟨rfl, rfl⟩)))
      go_ret
      exact ⟨rfl, rfl⟩
  · rw [hb] at hz
    have hi : intN D.data.toList = 1 := by unfold intN; rw [hz]; rfl
    rw [hi, hz]
    have he := HE.out 1
    rw [take_zh hz] at he
    clear hi hN hz
    have hsi1 : (2 : Int) ≤ (s.size : Int) := by omega
    go_enter Tryz.func112, Tryz.ntmps112
    go_wp2_with (first
      | (go_at_call 105; ((with_reducible refine (HT.out _).mono ?_); rintro e w1 ⟨rfl, rfl⟩))
      | (go_at_call 81; ((with_reducible refine (HC.out _).mono ?_); rintro e w1 ⟨rfl, rfl⟩)))
    go_ret
    exact ⟨rfl, rfl⟩
theorem intBytes_any (s : ByteArray) (hm : s.size ≤ 4194304) (w : World) :
    Calls Tryz.prog 112 #[.string s] w fun e w' => e = .returned (.int .i64 (intM s.data.toList : Nat)) ∧ w = w' := by
  cases hp : Lib.hasPrefix s.data.toList [45]
  · exact intBytes_no s hm hp w
  · exact intBytes_neg s hm hp w
end Go.Proofs.YtlbnaddgdgbckaaGreatDoor
/- Versions, as they are read. -/
namespace Go.Proofs.YtlbnaddgdgbckaaGreatDoor
open Go.RowKit
set_option linter.unusedSimpArgs false
set_option linter.unusedVariables false
def verF (s : ByteArray) : Nat → Nat
  | 0 => 0
  | n + 1 => if Sv.okS (s.extract 0 (n + 1)) then n + 1 else verF s n
def verM (s : ByteArray) : Nat := verF s (min s.size 20)
theorem verF_le (s : ByteArray) : ∀ n, verF s n ≤ n := by
  intro n
  induction n with
  | zero => exact Nat.le_refl _
  | succ n ih => unfold verF; split <;> omega
theorem verM_le (s : ByteArray) : verM s ≤ s.size := Nat.le_trans (verF_le s _) (Nat.min_le_left _ _)
theorem verF_ok (s : ByteArray) : ∀ n, 0 < verF s n → Sv.okS (s.extract 0 (verF s n)) = true := by
  intro n
  induction n with
  | zero => intro h; exact absurd h (by simp [verF])
  | succ n ih =>
    intro h
    unfold verF at h ⊢
    split
    · assumption
    · rename_i h1; rw [if_neg h1] at h; exact ih h
theorem below_alloc' (w : World) (o : Obj) {B : Nat} (h : B ≤ w.heap.size) : Below B w (w.alloc o) := (below_alloc w o).mono h
set_option maxHeartbeats 4000000 in
set_option maxRecDepth 100000 in
theorem versionBytes_any (s : ByteArray) (hm : s.size ≤ 4194304) (w : World) :
    Calls Tryz.prog 111 #[.string s] w fun e w' => e = .returned (.int .i64 (verM s : Nat)) ∧ Below w.heap.size w w' := by
  obtain ⟨M, hM⟩ : ∃ M, min s.size 20 = M := ⟨_, rfl⟩
  have hv : verM s = verF s M := by unfold verM; rw [hM]
  have hMs : M ≤ s.size := by omega
  have hmin : min (s.size : Int) 20 = (M : Int) := by omega
  rw [hv]
  clear hv hM
  go_enter Tryz.func111, Tryz.ntmps111
  go_wp2
  go_loopw [3] (fun i wr => ∃ n : Nat, i = .int .i64 n ∧ n ≤ M ∧ verF s n = verF s M ∧ Below w.heap.size w wr) (fun i _ => (intOf i).toNat)
  case atStart => exact ⟨M, rfl, Nat.le_refl _, rfl, Below.refl _ _⟩
  case round =>
    obtain ⟨n, rfl, hn, hv, hbel⟩ := hrel
    cases n with
    | zero =>
      go_wp2
      go_ret
      rw [← hv]
      exact ⟨rfl, hbel⟩
    | succ n =>
      have HV := Lib.hid hv
      clear hv
      have hpi : (0 : Int) < ((n + 1 : Nat) : Int) := by omega
      have hni : ((n + 1 : Nat) : Int) ≤ (s.size : Int) := by omega
      have HP := Lib.hid (fun W => parse_any (s.extract 0 (n + 1)) (by rw [ByteArray.size_extract]; omega) W)
      cases ho : Sv.okS (s.extract 0 (n + 1))
      · go_wp2_with (go_at_call 95; ((with_reducible refine (HP.out _).mono ?_); rintro e w1 ⟨rfl, hb⟩; rw [parse_fail ho]))
        have h1 := HV.out
        rw [verF, ho] at h1
        simp only [if_true, if_false, Bool.false_eq_true] at h1
        have hbw : Below w.heap.size w w1 := hbel.trans (hb.mono hbel.size)
        exact ⟨⟨n, rfl, by omega, h1, hbw.trans (below_alloc' w1 _ hbw.size)⟩, by simp [intOf]⟩
      · go_wp2_with (go_at_call 95; ((with_reducible refine (HP.out _).mono ?_); rintro e w1 ⟨rfl, hb⟩; rw [parse_good ho]))
        have h1 := HV.out
        rw [verF, ho] at h1
        simp only [if_true, if_false, Bool.false_eq_true] at h1
        have hbw : Below w.heap.size w w1 := hbel.trans (hb.mono hbel.size)
        go_ret
        exact ⟨ret_int (by omega), hbw.trans (below_alloc' w1 _ hbw.size)⟩
end Go.Proofs.YtlbnaddgdgbckaaGreatDoor
