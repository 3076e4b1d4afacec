
/- Versions, as they are read. -/
import Derived.Test.YtpedmkdpbdhenaaGreatDoorLf
namespace Go.Proofs.YtpedmkdpbdhenaaGreatDoor
open Go.RowKit
set_option linter.unusedSimpArgs false
set_option linter.unusedVariables false
def verF (s : ByteArray) : Nat → Nat
  | 0 => 0
  | n + 1 => if Sv.okS (s.extract 0 (n + 1)) then n + 1 else verF s n
def verM (s : ByteArray) : Nat := verF s (min s.size 20)
theorem verF_le (s : ByteArray) : ∀ n, verF s n ≤ n := by
  intro n
  induction n with
  | zero => exact Nat.le_refl _
  | succ n ih => unfold verF; split <;> omega
theorem verM_le (s : ByteArray) : verM s ≤ s.size := Nat.le_trans (verF_le s _) (Nat.min_le_left _ _)
theorem verF_ok (s : ByteArray) : ∀ n, 0 < verF s n → Sv.okS (s.extract 0 (verF s n)) = true := by
  intro n
  induction n with
  | zero => intro h; exact absurd h (by simp [verF])
  | succ n ih =>
    intro h
    unfold verF at h ⊢
    split
    · assumption
    · rename_i h1; rw [if_neg h1] at h; exact ih h
theorem below_alloc' (w : World) (o : Obj) {B : Nat} (h : B ≤ w.heap.size) : Below B w (w.alloc o) := (below_alloc w o).mono h
set_option maxHeartbeats 4000000 in
set_option maxRecDepth 100000 in
theorem versionBytes_any (s : ByteArray) (hm : s.size ≤ 4194304) (w : World) :
    Calls Tryz.prog 59 #[.string s] w fun e w' => e = .returned (.int .i64 (verM s : Nat)) ∧ Below w.heap.size w w' := by
  obtain ⟨M, hM⟩ : ∃ M, min s.size 20 = M := ⟨_, rfl⟩
  have hv : verM s = verF s M := by unfold verM; rw [hM]
  have hMs : M ≤ s.size := by omega
  have hmin : min (s.size : Int) 20 = (M : Int) := by omega
  rw [hv]
  clear hv hM
  go_enter Tryz.func59, Tryz.ntmps59
  go_wp2
  go_loopw [3] (fun i wr => ∃ n : Nat, i = .int .i64 n ∧ n ≤ M ∧ verF s n = verF s M ∧ Below w.heap.size w wr) (fun i _ => (intOf i).toNat)
  case atStart => exact ⟨M, rfl, Nat.le_refl _, rfl, Below.refl _ _⟩
  case round =>
    obtain ⟨n, rfl, hn, hv, hbel⟩ := hrel
    cases n with
    | zero =>
      go_wp2
      go_ret
      rw [← hv]
      exact ⟨rfl, hbel⟩
    | succ n =>
      have HV := Lib.hid hv
      clear hv
      have hpi : (0 : Int) < ((n + 1 : Nat) : Int) := by omega
      have hni : ((n + 1 : Nat) : Int) ≤ (s.size : Int) := by omega
      have HP := Lib.hid (fun W => parse_any (s.extract 0 (n + 1)) (by rw [ByteArray.size_extract]; omega) W)
      cases ho : Sv.okS (s.extract 0 (n + 1))
      · go_wp2_with (go_at_call 68; ((with_reducible refine (HP.out _).mono ?_); rintro e w1 ⟨rfl, hb⟩; rw [parse_fail ho]))
        have h1 := HV.out
        rw [verF, ho] at h1
        simp only [if_true, if_false, Bool.false_eq_true] at h1
        have hbw : Below w.heap.size w w1 := hbel.trans (hb.mono hbel.size)
        exact ⟨⟨n, rfl, by omega, h1, hbw.trans (below_alloc' w1 _ hbw.size)⟩, by simp [intOf]⟩
      · go_wp2_with (go_at_call 68; ((with_reducible refine (HP.out _).mono ?_); rintro e w1 ⟨rfl, hb⟩; rw [parse_good ho]))
        have h1 := HV.out
        rw [verF, ho] at h1
        simp only [if_true, if_false, Bool.false_eq_true] at h1
        have hbw : Below w.heap.size w w1 := hbel.trans (hb.mono hbel.size)
        go_ret
        exact ⟨ret_int (by omega), hbw.trans (below_alloc' w1 _ hbw.size)⟩
end Go.Proofs.YtpedmkdpbdhenaaGreatDoor
