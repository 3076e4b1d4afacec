
/- Signs. -/
import Derived.Test.YtpedmkdpbdhenaaGreatDoorLc
namespace Go.Proofs.YtpedmkdpbdhenaaGreatDoor
open Go.RowKit
set_option linter.unusedSimpArgs false
set_option linter.unusedVariables false
def sgB (c : Nat) : Bool := decide (c = 61) || decide (c = 124) || decide (c = 40) || decide (c = 41) || decide (c = 44) || decide (c = 59) || decide (c = 58) || decide (c = 46) || decide (c = 64) || decide (c = 95)
def signT (s : ByteArray) (c : Nat) : Tk × Nat :=
  if c = 45 then (⟨8, s.extract 0 2, 0⟩, 2) else if sgB c then (⟨8, s.extract 0 1, 0⟩, 1) else (tk0, 0)
set_option maxHeartbeats 4000000 in
set_option maxRecDepth 100000 in
theorem firstSign_any (s : ByteArray) (hm : s.size ≤ 4194304) (h0 : 0 < s.size) (h2 : s[0].toNat = 45 → 2 ≤ s.size) (w : World) :
    Calls Tryz.prog 38 #[.string s] w fun e w' => e = .returned (.tuple #[(signT s s[0].toNat).1.v 0, .int .i64 (signT s s[0].toNat).2]) ∧ Below w.heap.size w w' := by
  have hci : (0 : Int) < (s.size : Int) := by omega
  by_cases h45 : s[0].toNat = 45
  · have d45 : ((s[0].toNat : Int) == (((⟨#[45, 62]⟩ : ByteArray)[0]'(by show 0 < 2; omega)).toNat : Int)) = true := by rw [h45]; rfl
    have hs2 := h2 h45
    have he : signT s s[0].toNat = (⟨8, s.extract 0 2, 0⟩, 2) := by unfold signT; rw [if_pos h45]
    rw [he]
    clear he h45 h2
    have HL := Lib.hid (fun W => clone_any (s.extract 0 2) (by rw [ByteArray.size_extract]; omega) W)
    have hNi : (2 : Int) ≤ (s.size : Int) := by omega
    go_enter Tryz.func38, Tryz.ntmps38
    go_wp2_with (go_at_call 52; ((with_reducible refine (HL.out _).mono ?_); rintro e w2 ⟨rfl, hb⟩; obtain ⟨hc, hf⟩ := bcell hb; have z2 := hb.size; rw [World.size_alloc] at z2; have y2 : w.heap.size < w2.heap.size := (by omega)))
    have hB : Below w.heap.size w w2 := (below_alloc w _).trans (hb.mono (by simp))
    have k0 := (hb_below (hb_new w (.cells #[.int .i64 0, .string ⟨#[]⟩, .int .i64 0, .int .i64 0] 32)) hb (by simp))
    have r0 := hb_at k0 0 rfl
    have r1 := hb_at k0 1 rfl
    have r2 := hb_at k0 2 rfl
    have r3 := hb_at k0 3 rfl
    exact bodyPost_ret (v := .tuple #[Tk.v ⟨8, s.extract 0 2, 0⟩ 0, .int .i64 2]) (by simp [results, Tryz.results38, go_sem, r0, r1, r2, r3, Tk.v]) rfl ⟨rfl, (((hB.setCell (by simp) _).setCell (by simp) _).setCell (by simp) _).setCell (by simp) _⟩
  have d45 : ((s[0].toNat : Int) == (((⟨#[45, 62]⟩ : ByteArray)[0]'(by show 0 < 2; omega)).toNat : Int)) = false := by rw [beq_eq_false_iff_ne]; intro e; exact h45 (by have e1 : (s[0].toNat : Int) = 45 := e; omega)
  by_cases h61 : s[0].toNat = 61
  · have d61 : ((s[0].toNat : Int) == 61) = true := by rw [h61]; rfl
    have he : signT s s[0].toNat = (⟨8, s.extract 0 1, 0⟩, 1) := by unfold signT; rw [if_neg h45, h61]; rfl
    rw [he]
    clear he h2  h61 h45
    have HL := Lib.hid (fun W => clone_any (s.extract 0 1) (by rw [ByteArray.size_extract]; omega) W)
    have hNi : (1 : Int) ≤ (s.size : Int) := by omega
    go_enter Tryz.func38, Tryz.ntmps38
    go_wp2_with (go_at_call 52; ((with_reducible refine (HL.out _).mono ?_); rintro e w2 ⟨rfl, hb⟩; obtain ⟨hc, hf⟩ := bcell hb; have z2 := hb.size; rw [World.size_alloc] at z2; have y2 : w.heap.size < w2.heap.size := (by omega)))
    have hB : Below w.heap.size w w2 := (below_alloc w _).trans (hb.mono (by simp))
    have k0 := (hb_below (hb_new w (.cells #[.int .i64 0, .string ⟨#[]⟩, .int .i64 0, .int .i64 0] 32)) hb (by simp))
    have r0 := hb_at k0 0 rfl
    have r1 := hb_at k0 1 rfl
    have r2 := hb_at k0 2 rfl
    have r3 := hb_at k0 3 rfl
    exact bodyPost_ret (v := .tuple #[Tk.v ⟨8, s.extract 0 1, 0⟩ 0, .int .i64 1]) (by simp [results, Tryz.results38, go_sem, r0, r1, r2, r3, Tk.v]) rfl ⟨rfl, (((hB.setCell (by simp) _).setCell (by simp) _).setCell (by simp) _).setCell (by simp) _⟩
  have d61 : ((s[0].toNat : Int) == 61) = false := by rw [beq_eq_false_iff_ne]; omega
  by_cases h124 : s[0].toNat = 124
  · have d124 : ((s[0].toNat : Int) == 124) = true := by rw [h124]; rfl
    have he : signT s s[0].toNat = (⟨8, s.extract 0 1, 0⟩, 1) := by unfold signT; rw [if_neg h45, h124]; rfl
    rw [he]
    clear he h2 h61 h124 h45
    have HL := Lib.hid (fun W => clone_any (s.extract 0 1) (by rw [ByteArray.size_extract]; omega) W)
    have hNi : (1 : Int) ≤ (s.size : Int) := by omega
    go_enter Tryz.func38, Tryz.ntmps38
    go_wp2_with (go_at_call 52; ((with_reducible refine (HL.out _).mono ?_); rintro e w2 ⟨rfl, hb⟩; obtain ⟨hc, hf⟩ := bcell hb; have z2 := hb.size; rw [World.size_alloc] at z2; have y2 : w.heap.size < w2.heap.size := (by omega)))
    have hB : Below w.heap.size w w2 := (below_alloc w _).trans (hb.mono (by simp))
    have k0 := (hb_below (hb_new w (.cells #[.int .i64 0, .string ⟨#[]⟩, .int .i64 0, .int .i64 0] 32)) hb (by simp))
    have r0 := hb_at k0 0 rfl
    have r1 := hb_at k0 1 rfl
    have r2 := hb_at k0 2 rfl
    have r3 := hb_at k0 3 rfl
    exact bodyPost_ret (v := .tuple #[Tk.v ⟨8, s.extract 0 1, 0⟩ 0, .int .i64 1]) (by simp [results, Tryz.results38, go_sem, r0, r1, r2, r3, Tk.v]) rfl ⟨rfl, (((hB.setCell (by simp) _).setCell (by simp) _).setCell (by simp) _).setCell (by simp) _⟩
  have d124 : ((s[0].toNat : Int) == 124) = false := by rw [beq_eq_false_iff_ne]; omega
  by_cases h40 : s[0].toNat = 40
  · have d40 : ((s[0].toNat : Int) == 40) = true := by rw [h40]; rfl
    have he : signT s s[0].toNat = (⟨8, s.extract 0 1, 0⟩, 1) := by unfold signT; rw [if_neg h45, h40]; rfl
    rw [he]
    clear he h2 h61 h124 h40 h45
    have HL := Lib.hid (fun W => clone_any (s.extract 0 1) (by rw [ByteArray.size_extract]; omega) W)
    have hNi : (1 : Int) ≤ (s.size : Int) := by omega
    go_enter Tryz.func38, Tryz.ntmps38
    go_wp2_with (go_at_call 52; ((with_reducible refine (HL.out _).mono ?_); rintro e w2 ⟨rfl, hb⟩; obtain ⟨hc, hf⟩ := bcell hb; have z2 := hb.size; rw [World.size_alloc] at z2; have y2 : w.heap.size < w2.heap.size := (by omega)))
    have hB : Below w.heap.size w w2 := (below_alloc w _).trans (hb.mono (by simp))
    have k0 := (hb_below (hb_new w (.cells #[.int .i64 0, .string ⟨#[]⟩, .int .i64 0, .int .i64 0] 32)) hb (by simp))
    have r0 := hb_at k0 0 rfl
    have r1 := hb_at k0 1 rfl
    have r2 := hb_at k0 2 rfl
    have r3 := hb_at k0 3 rfl
    exact bodyPost_ret (v := .tuple #[Tk.v ⟨8, s.extract 0 1, 0⟩ 0, .int .i64 1]) (by simp [results, Tryz.results38, go_sem, r0, r1, r2, r3, Tk.v]) rfl ⟨rfl, (((hB.setCell (by simp) _).setCell (by simp) _).setCell (by simp) _).setCell (by simp) _⟩
  have d40 : ((s[0].toNat : Int) == 40) = false := by rw [beq_eq_false_iff_ne]; omega
  by_cases h41 : s[0].toNat = 41
  · have d41 : ((s[0].toNat : Int) == 41) = true := by rw [h41]; rfl
    have he : signT s s[0].toNat = (⟨8, s.extract 0 1, 0⟩, 1) := by unfold signT; rw [if_neg h45, h41]; rfl
    rw [he]
    clear he h2 h61 h124 h40 h41 h45
    have HL := Lib.hid (fun W => clone_any (s.extract 0 1) (by rw [ByteArray.size_extract]; omega) W)
    have hNi : (1 : Int) ≤ (s.size : Int) := by omega
    go_enter Tryz.func38, Tryz.ntmps38
    go_wp2_with (go_at_call 52; ((with_reducible refine (HL.out _).mono ?_); rintro e w2 ⟨rfl, hb⟩; obtain ⟨hc, hf⟩ := bcell hb; have z2 := hb.size; rw [World.size_alloc] at z2; have y2 : w.heap.size < w2.heap.size := (by omega)))
    have hB : Below w.heap.size w w2 := (below_alloc w _).trans (hb.mono (by simp))
    have k0 := (hb_below (hb_new w (.cells #[.int .i64 0, .string ⟨#[]⟩, .int .i64 0, .int .i64 0] 32)) hb (by simp))
    have r0 := hb_at k0 0 rfl
    have r1 := hb_at k0 1 rfl
    have r2 := hb_at k0 2 rfl
    have r3 := hb_at k0 3 rfl
    exact bodyPost_ret (v := .tuple #[Tk.v ⟨8, s.extract 0 1, 0⟩ 0, .int .i64 1]) (by simp [results, Tryz.results38, go_sem, r0, r1, r2, r3, Tk.v]) rfl ⟨rfl, (((hB.setCell (by simp) _).setCell (by simp) _).setCell (by simp) _).setCell (by simp) _⟩
  have d41 : ((s[0].toNat : Int) == 41) = false := by rw [beq_eq_false_iff_ne]; omega
  by_cases h44 : s[0].toNat = 44
  · have d44 : ((s[0].toNat : Int) == 44) = true := by rw [h44]; rfl
    have he : signT s s[0].toNat = (⟨8, s.extract 0 1, 0⟩, 1) := by unfold signT; rw [if_neg h45, h44]; rfl
    rw [he]
    clear he h2 h61 h124 h40 h41 h44 h45
    have HL := Lib.hid (fun W => clone_any (s.extract 0 1) (by rw [ByteArray.size_extract]; omega) W)
    have hNi : (1 : Int) ≤ (s.size : Int) := by omega
    go_enter Tryz.func38, Tryz.ntmps38
    go_wp2_with (go_at_call 52; ((with_reducible refine (HL.out _).mono ?_); rintro e w2 ⟨rfl, hb⟩; obtain ⟨hc, hf⟩ := bcell hb; have z2 := hb.size; rw [World.size_alloc] at z2; have y2 : w.heap.size < w2.heap.size := (by omega)))
    have hB : Below w.heap.size w w2 := (below_alloc w _).trans (hb.mono (by simp))
    have k0 := (hb_below (hb_new w (.cells #[.int .i64 0, .string ⟨#[]⟩, .int .i64 0, .int .i64 0] 32)) hb (by simp))
    have r0 := hb_at k0 0 rfl
    have r1 := hb_at k0 1 rfl
    have r2 := hb_at k0 2 rfl
    have r3 := hb_at k0 3 rfl
    exact bodyPost_ret (v := .tuple #[Tk.v ⟨8, s.extract 0 1, 0⟩ 0, .int .i64 1]) (by simp [results, Tryz.results38, go_sem, r0, r1, r2, r3, Tk.v]) rfl ⟨rfl, (((hB.setCell (by simp) _).setCell (by simp) _).setCell (by simp) _).setCell (by simp) _⟩
  have d44 : ((s[0].toNat : Int) == 44) = false := by rw [beq_eq_false_iff_ne]; omega
  by_cases h59 : s[0].toNat = 59
  · have d59 : ((s[0].toNat : Int) == 59) = true := by rw [h59]; rfl
    have he : signT s s[0].toNat = (⟨8, s.extract 0 1, 0⟩, 1) := by unfold signT; rw [if_neg h45, h59]; rfl
    rw [he]
    clear he h2 h61 h124 h40 h41 h44 h59 h45
    have HL := Lib.hid (fun W => clone_any (s.extract 0 1) (by rw [ByteArray.size_extract]; omega) W)
    have hNi : (1 : Int) ≤ (s.size : Int) := by omega
    go_enter Tryz.func38, Tryz.ntmps38
    go_wp2_with (go_at_call 52; ((with_reducible refine (HL.out _).mono ?_); rintro e w2 ⟨rfl, hb⟩; obtain ⟨hc, hf⟩ := bcell hb; have z2 := hb.size; rw [World.size_alloc] at z2; have y2 : w.heap.size < w2.heap.size := (by omega)))
    have hB : Below w.heap.size w w2 := (below_alloc w _).trans (hb.mono (by simp))
    have k0 := (hb_below (hb_new w (.cells #[.int .i64 0, .string ⟨#[]⟩, .int .i64 0, .int .i64 0] 32)) hb (by simp))
    have r0 := hb_at k0 0 rfl
    have r1 := hb_at k0 1 rfl
    have r2 := hb_at k0 2 rfl
    have r3 := hb_at k0 3 rfl
    exact bodyPost_ret (v := .tuple #[Tk.v ⟨8, s.extract 0 1, 0⟩ 0, .int .i64 1]) (by simp [results, Tryz.results38, go_sem, r0, r1, r2, r3, Tk.v]) rfl ⟨rfl, (((hB.setCell (by simp) _).setCell (by simp) _).setCell (by simp) _).setCell (by simp) _⟩
  have d59 : ((s[0].toNat : Int) == 59) = false := by rw [beq_eq_false_iff_ne]; omega
  by_cases h58 : s[0].toNat = 58
  · have d58 : ((s[0].toNat : Int) == 58) = true := by rw [h58]; rfl
    have he : signT s s[0].toNat = (⟨8, s.extract 0 1, 0⟩, 1) := by unfold signT; rw [if_neg h45, h58]; rfl
    rw [he]
    clear he h2 h61 h124 h40 h41 h44 h59 h58 h45
    have HL := Lib.hid (fun W => clone_any (s.extract 0 1) (by rw [ByteArray.size_extract]; omega) W)
    have hNi : (1 : Int) ≤ (s.size : Int) := by omega
    go_enter Tryz.func38, Tryz.ntmps38
    go_wp2_with (go_at_call 52; ((with_reducible refine (HL.out _).mono ?_); rintro e w2 ⟨rfl, hb⟩; obtain ⟨hc, hf⟩ := bcell hb; have z2 := hb.size; rw [World.size_alloc] at z2; have y2 : w.heap.size < w2.heap.size := (by omega)))
    have hB : Below w.heap.size w w2 := (below_alloc w _).trans (hb.mono (by simp))
    have k0 := (hb_below (hb_new w (.cells #[.int .i64 0, .string ⟨#[]⟩, .int .i64 0, .int .i64 0] 32)) hb (by simp))
    have r0 := hb_at k0 0 rfl
    have r1 := hb_at k0 1 rfl
    have r2 := hb_at k0 2 rfl
    have r3 := hb_at k0 3 rfl
    exact bodyPost_ret (v := .tuple #[Tk.v ⟨8, s.extract 0 1, 0⟩ 0, .int .i64 1]) (by simp [results, Tryz.results38, go_sem, r0, r1, r2, r3, Tk.v]) rfl ⟨rfl, (((hB.setCell (by simp) _).setCell (by simp) _).setCell (by simp) _).setCell (by simp) _⟩
  have d58 : ((s[0].toNat : Int) == 58) = false := by rw [beq_eq_false_iff_ne]; omega
  by_cases h46 : s[0].toNat = 46
  · have d46 : ((s[0].toNat : Int) == 46) = true := by rw [h46]; rfl
    have he : signT s s[0].toNat = (⟨8, s.extract 0 1, 0⟩, 1) := by unfold signT; rw [if_neg h45, h46]; rfl
    rw [he]
    clear he h2 h61 h124 h40 h41 h44 h59 h58 h46 h45
    have HL := Lib.hid (fun W => clone_any (s.extract 0 1) (by rw [ByteArray.size_extract]; omega) W)
    have hNi : (1 : Int) ≤ (s.size : Int) := by omega
    go_enter Tryz.func38, Tryz.ntmps38
    go_wp2_with (go_at_call 52; ((with_reducible refine (HL.out _).mono ?_); rintro e w2 ⟨rfl, hb⟩; obtain ⟨hc, hf⟩ := bcell hb; have z2 := hb.size; rw [World.size_alloc] at z2; have y2 : w.heap.size < w2.heap.size := (by omega)))
    have hB : Below w.heap.size w w2 := (below_alloc w _).trans (hb.mono (by simp))
    have k0 := (hb_below (hb_new w (.cells #[.int .i64 0, .string ⟨#[]⟩, .int .i64 0, .int .i64 0] 32)) hb (by simp))
    have r0 := hb_at k0 0 rfl
    have r1 := hb_at k0 1 rfl
    have r2 := hb_at k0 2 rfl
    have r3 := hb_at k0 3 rfl
    exact bodyPost_ret (v := .tuple #[Tk.v ⟨8, s.extract 0 1, 0⟩ 0, .int .i64 1]) (by simp [results, Tryz.results38, go_sem, r0, r1, r2, r3, Tk.v]) rfl ⟨rfl, (((hB.setCell (by simp) _).setCell (by simp) _).setCell (by simp) _).setCell (by simp) _⟩
  have d46 : ((s[0].toNat : Int) == 46) = false := by rw [beq_eq_false_iff_ne]; omega
  by_cases h64 : s[0].toNat = 64
  · have d64 : ((s[0].toNat : Int) == 64) = true := by rw [h64]; rfl
    have he : signT s s[0].toNat = (⟨8, s.extract 0 1, 0⟩, 1) := by unfold signT; rw [if_neg h45, h64]; rfl
    rw [he]
    clear he h2 h61 h124 h40 h41 h44 h59 h58 h46 h64 h45
    have HL := Lib.hid (fun W => clone_any (s.extract 0 1) (by rw [ByteArray.size_extract]; omega) W)
    have hNi : (1 : Int) ≤ (s.size : Int) := by omega
    go_enter Tryz.func38, Tryz.ntmps38
    go_wp2_with (go_at_call 52; ((with_reducible refine (HL.out _).mono ?_); rintro e w2 ⟨rfl, hb⟩; obtain ⟨hc, hf⟩ := bcell hb; have z2 := hb.size; rw [World.size_alloc] at z2; have y2 : w.heap.size < w2.heap.size := (by omega)))
    have hB : Below w.heap.size w w2 := (below_alloc w _).trans (hb.mono (by simp))
    have k0 := (hb_below (hb_new w (.cells #[.int .i64 0, .string ⟨#[]⟩, .int .i64 0, .int .i64 0] 32)) hb (by simp))
    have r0 := hb_at k0 0 rfl
    have r1 := hb_at k0 1 rfl
    have r2 := hb_at k0 2 rfl
    have r3 := hb_at k0 3 rfl
    exact bodyPost_ret (v := .tuple #[Tk.v ⟨8, s.extract 0 1, 0⟩ 0, .int .i64 1]) (by simp [results, Tryz.results38, go_sem, r0, r1, r2, r3, Tk.v]) rfl ⟨rfl, (((hB.setCell (by simp) _).setCell (by simp) _).setCell (by simp) _).setCell (by simp) _⟩
  have d64 : ((s[0].toNat : Int) == 64) = false := by rw [beq_eq_false_iff_ne]; omega
  by_cases h95 : s[0].toNat = 95
  · have d95 : ((s[0].toNat : Int) == 95) = true := by rw [h95]; rfl
    have he : signT s s[0].toNat = (⟨8, s.extract 0 1, 0⟩, 1) := by unfold signT; rw [if_neg h45, h95]; rfl
    rw [he]
    clear he h2 h61 h124 h40 h41 h44 h59 h58 h46 h64 h95 h45
    have HL := Lib.hid (fun W => clone_any (s.extract 0 1) (by rw [ByteArray.size_extract]; omega) W)
    have hNi : (1 : Int) ≤ (s.size : Int) := by omega
    go_enter Tryz.func38, Tryz.ntmps38
    go_wp2_with (go_at_call 52; ((with_reducible refine (HL.out _).mono ?_); rintro e w2 ⟨rfl, hb⟩; obtain ⟨hc, hf⟩ := bcell hb; have z2 := hb.size; rw [World.size_alloc] at z2; have y2 : w.heap.size < w2.heap.size := (by omega)))
    have hB : Below w.heap.size w w2 := (below_alloc w _).trans (hb.mono (by simp))
    have k0 := (hb_below (hb_new w (.cells #[.int .i64 0, .string ⟨#[]⟩, .int .i64 0, .int .i64 0] 32)) hb (by simp))
    have r0 := hb_at k0 0 rfl
    have r1 := hb_at k0 1 rfl
    have r2 := hb_at k0 2 rfl
    have r3 := hb_at k0 3 rfl
    exact bodyPost_ret (v := .tuple #[Tk.v ⟨8, s.extract 0 1, 0⟩ 0, .int .i64 1]) (by simp [results, Tryz.results38, go_sem, r0, r1, r2, r3, Tk.v]) rfl ⟨rfl, (((hB.setCell (by simp) _).setCell (by simp) _).setCell (by simp) _).setCell (by simp) _⟩
  have d95 : ((s[0].toNat : Int) == 95) = false := by rw [beq_eq_false_iff_ne]; omega
  have he : signT s s[0].toNat = (tk0, 0) := by
    unfold signT
    rw [if_neg h45, if_neg]
    unfold sgB
    simp only [h61, h124, h40, h41, h44, h59, h58, h46, h64, h95, decide_false, Bool.or_false]
    simp
  rw [he]
  clear he h2 h61 h124 h40 h41 h44 h59 h58 h46 h64 h95 h45
  go_enter Tryz.func38, Tryz.ntmps38
  go_wp2
  have hB : Below w.heap.size w (w.alloc (.cells #[.int .i64 0, .string ⟨#[]⟩, .int .i64 0, .int .i64 0] 32)) := below_alloc w _
  have k0 := hb_new w (.cells #[.int .i64 0, .string ⟨#[]⟩, .int .i64 0, .int .i64 0] 32)
  have r0 := hb_at k0 0 rfl
  have r1 := hb_at k0 1 rfl
  have r2 := hb_at k0 2 rfl
  have r3 := hb_at k0 3 rfl
  exact bodyPost_ret (v := .tuple #[tk0.v 0, .int .i64 0]) (by simp [results, Tryz.results38, go_sem, r0, r1, r2, r3, tk0, Tk.v]) rfl ⟨rfl, by first | exact hB | exact (((hB.setCell (by simp) _).setCell (by simp) _).setCell (by simp) _).setCell (by simp) _⟩
end Go.Proofs.YtpedmkdpbdhenaaGreatDoor
