
/- Numbers: versions and ints. -/
import Derived.Test.YtpedmkdpbdhenaaGreatDoorMn
import Derived.Test.YtpedmkdpbdhenaaGreatDoorS2
namespace Go.Proofs.YtpedmkdpbdhenaaGreatDoor
open Go.RowKit
set_option linter.unusedSimpArgs false
set_option linter.unusedVariables false
theorem atoi_int (s : ByteArray) (hm : s.size ≤ 4194304) (v : Int) (h : Lib.atoiAll s.data.toList = .ok v) (w : World) :
    Calls Tryz.prog 61 #[.string s] w fun e w' => e = .returned (.tuple #[.int .i64 v, .nilIface]) ∧ Below w.heap.size w w' := by
  refine (Tryz.strconv_Atoi_ok s (by omega) v h w).mono ?_
  rintro e w' ⟨rfl, hw | ⟨t, rfl⟩⟩
  · subst hw; exact ⟨rfl, Below.refl _ _⟩
  · refine ⟨rfl, ?_⟩
    exact Lib.bytesWorld_below w _ t
def numT (s : ByteArray) : Tk × Nat :=
  if 0 < verM s then (⟨6, s.extract 0 (verM s), 0⟩, verM s)
  else if intM s.data.toList = 0 then (tk0, 0) else (⟨4, ⟨#[]⟩, intV s.data.toList⟩, intM s.data.toList)
theorem intM_le (l : List UInt8) : intM l ≤ l.length := by
  by_cases h : intM l = 0
  · omega
  · cases hp : Lib.hasPrefix l [45]
    · have := (intM_plain hp h).1
      have := intN_le l
      omega
    · have h1 := (intM_neg hp h).1
      have h2 := intN_le (l.drop 1)
      have h3 := congrArg List.length (pre_cons hp)
      rw [List.length_cons] at h3
      omega
set_option maxHeartbeats 4000000 in
set_option maxRecDepth 100000 in
theorem firstNumber_any (s : ByteArray) (hm : s.size ≤ 4194304) (w : World) :
    Calls Tryz.prog 37 #[.string s] w fun e w' => e = .returned (.tuple #[(numT s).1.v 0, .int .i64 (numT s).2]) ∧ Below w.heap.size w w' := by
  have hle := verM_le s
  have HV := Lib.hid (fun W => versionBytes_any s hm W)
  have HI := Lib.hid (fun W => intBytes_any s hm W)
  have hil := intM_le s.data.toList
  rw [len_list] at hil
  have HA := Lib.hid (fun (h : intM s.data.toList ≠ 0) => intM_ok h)
  have he : numT s = (if 0 < verM s then (⟨6, s.extract 0 (verM s), 0⟩, verM s)
  else if intM s.data.toList = 0 then (tk0, 0) else (⟨4, ⟨#[]⟩, intV s.data.toList⟩, intM s.data.toList)) := rfl
  rw [he]
  clear he
  generalize intV s.data.toList = V at *
  generalize verM s = M at *
  generalize hI : intM s.data.toList = I at *
  by_cases h1 : 0 < M
  · rw [if_pos h1]
    have hMi : (0 : Int) < (M : Int) := by omega
    have hMs : (M : Int) ≤ (s.size : Int) := by omega
    have HL := Lib.hid (fun W => clone_any (s.extract 0 M) (by rw [ByteArray.size_extract]; omega) W)
    go_enter Tryz.func37, Tryz.ntmps37
    go_wp2_with (first
      | (go_at_call 59; ((with_reducible refine (HV.out _).mono ?_); rintro e w1 ⟨rfl, hb1⟩; obtain ⟨hc1, hf1⟩ := bcell hb1; have z1 := hb1.size; rw [World.size_alloc] at z1; have y1 : w.heap.size < w1.heap.size := (by omega)))
      | (go_at_call 52; ((with_reducible refine (HL.out _).mono ?_); rintro e w2 ⟨rfl, hb2⟩; obtain ⟨hc2, hf2⟩ := bcell hb2; have z2 := hb2.size; have y2 : w.heap.size < w2.heap.size := (by omega))))
    have hB1 : Below w.heap.size w w1 := (below_alloc w _).trans (hb1.mono (by simp))
    have k1 := hb_below (hb_new w (.cells #[.int .i64 0, .string ⟨#[]⟩, .int .i64 0, .int .i64 0] 32)) hb1 (by simp)
    have hB : Below w.heap.size w w2 := hB1.trans (hb2.mono hB1.size)
    have k0 := hb_below k1 hb2 (by omega)
    have r0 := hb_at k0 0 rfl
    have r1 := hb_at k0 1 rfl
    have r2 := hb_at k0 2 rfl
    have r3 := hb_at k0 3 rfl
    exact bodyPost_ret (v := .tuple #[Tk.v ⟨6, s.extract 0 M, 0⟩ 0, .int .i64 M]) (by simp [results, Tryz.results37, go_sem, r0, r1, r2, r3, Tk.v, tk0]) rfl ⟨rfl, (((hB.setCell (by simp) _).setCell (by simp) _).setCell (by simp) _).setCell (by simp) _⟩
  · rw [if_neg h1]
    obtain rfl : M = 0 := by omega
    by_cases h2 : I = 0
    · rw [if_pos h2]
      subst h2
      go_enter Tryz.func37, Tryz.ntmps37
      go_wp2_with (first
        | (go_at_call 59; ((with_reducible refine (HV.out _).mono ?_); rintro e w1 ⟨rfl, hb1⟩; obtain ⟨hc1, hf1⟩ := bcell hb1; have z1 := hb1.size; rw [World.size_alloc] at z1; have y1 : w.heap.size < w1.heap.size := (by omega)))
        | (go_at_call 60; ((with_reducible refine (HI.out _).mono ?_); rintro e w2 ⟨rfl, rfl⟩)))
      have hB1 : Below w.heap.size w w1 := (below_alloc w _).trans (hb1.mono (by simp))
      have k1 := hb_below (hb_new w (.cells #[.int .i64 0, .string ⟨#[]⟩, .int .i64 0, .int .i64 0] 32)) hb1 (by simp)
      have hB := hB1
      have k0 := k1
      have r0 := hb_at k0 0 rfl
      have r1 := hb_at k0 1 rfl
      have r2 := hb_at k0 2 rfl
      have r3 := hb_at k0 3 rfl
      exact bodyPost_ret (v := .tuple #[tk0.v 0, .int .i64 0]) (by simp [results, Tryz.results37, go_sem, r0, r1, r2, r3, Tk.v, tk0]) rfl ⟨rfl, (((hB.setCell (by simp) _).setCell (by simp) _).setCell (by simp) _).setCell (by simp) _⟩
    · rw [if_neg h2]
      have n2 : ((I : Int) == 0) = false := by rw [beq_eq_false_iff_ne]; omega
      have hIs : (I : Int) ≤ (s.size : Int) := by omega
      have HT := Lib.hid (fun W => atoi_int (s.extract 0 I) (by rw [ByteArray.size_extract]; omega) V (by rw [← ByteArray.toList_eq, take_list]; exact HA.out h2) W)
      go_enter Tryz.func37, Tryz.ntmps37
      go_wp2_with (first
        | (go_at_call 59; ((with_reducible refine (HV.out _).mono ?_); rintro e w1 ⟨rfl, hb1⟩; obtain ⟨hc1, hf1⟩ := bcell hb1; have z1 := hb1.size; rw [World.size_alloc] at z1; have y1 : w.heap.size < w1.heap.size := (by omega)))
        | (go_at_call 60; ((with_reducible refine (HI.out _).mono ?_); rintro e w2 ⟨rfl, rfl⟩))
        | (go_at_call 61; ((with_reducible refine (HT.out _).mono ?_); rintro e w2 ⟨rfl, hb2⟩; obtain ⟨hc2, hf2⟩ := bcell hb2; have z2 := hb2.size; have y2 : w.heap.size < w2.heap.size := (by omega))))
      have hB1 : Below w.heap.size w w1 := (below_alloc w _).trans (hb1.mono (by simp))
      have k1 := hb_below (hb_new w (.cells #[.int .i64 0, .string ⟨#[]⟩, .int .i64 0, .int .i64 0] 32)) hb1 (by simp)
      have hB : Below w.heap.size w w2 := hB1.trans (hb2.mono hB1.size)
      have k0 := hb_below k1 hb2 (by omega)
      have r0 := hb_at k0 0 rfl
      have r1 := hb_at k0 1 rfl
      have r2 := hb_at k0 2 rfl
      have r3 := hb_at k0 3 rfl
      exact bodyPost_ret (v := .tuple #[Tk.v ⟨4, ⟨#[]⟩, V⟩ 0, .int .i64 I]) (by simp [results, Tryz.results37, go_sem, r0, r1, r2, r3, Tk.v, tk0]) rfl ⟨rfl, (((hB.setCell (by simp) _).setCell (by simp) _).setCell (by simp) _).setCell (by simp) _⟩
end Go.Proofs.YtpedmkdpbdhenaaGreatDoor
