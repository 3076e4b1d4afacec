/- Texts in a row: Lc Ld Le Lf. -/
import Derived.Test.YtmkjalnlldpdcaaGreatDoorZT4
import Derived.Deep.DeepCutAuto
set_option maxHeartbeats 16000000
set_option maxRecDepth 100000
namespace Go.Proofs.YtmkjalnlldpdcaaGreatDoor
open Go.RowKit
set_option linter.unusedSimpArgs false
set_option linter.unusedVariables false
theorem toList_injX {a b : ByteArray} (h : a.toList = b.toList) : a = b := by
 rw [ByteArray.toList_eq, ByteArray.toList_eq] at h
 cases a; cases b
 simpa using h
def keyB (s : ByteArray) : Bool := decide (s = ⟨#[105, 109, 112, 111, 114, 116]⟩) || decide (s = ⟨#[116, 121, 112, 101]⟩) || decide (s = ⟨#[97, 108, 105, 97, 115]⟩) || decide (s = ⟨#[108, 101, 116]⟩) || decide (s = ⟨#[114, 101, 99]⟩) || decide (s = ⟨#[105, 110]⟩) || decide (s = ⟨#[102, 117, 110]⟩) || decide (s = ⟨#[109, 97, 116, 99, 104]⟩) || decide (s = ⟨#[119, 105, 116, 104]⟩) || decide (s = ⟨#[101, 110, 100]⟩) || decide (s = ⟨#[101, 120, 112, 111, 114, 116]⟩)
theorem keyword_any (s : ByteArray) (w : World) : Calls Tryz.prog 112 #[.string s] w fun e w' => e = .returned (.bool (keyB s)) ∧ w = w' := by
 by_cases h0 : s = ⟨#[105, 109, 112, 111, 114, 116]⟩
 · subst h0
   have e : keyB ⟨#[105, 109, 112, 111, 114, 116]⟩ = true := by decide
   rw [e]
   go_enter Tryz.func112, Tryz.ntmps112
   go_wp2
   go_ret
   exact ⟨rfl, rfl⟩
 have d0 : (s.toList == [105, 109, 112, 111, 114, 116]) = false := by rw [beq_eq_false_iff_ne]; exact fun h => h0 (toList_injX (b := ⟨#[105, 109, 112, 111, 114, 116]⟩) Q59)
 by_cases h1 : s = ⟨#[116, 121, 112, 101]⟩
 · subst h1
   have e : keyB ⟨#[116, 121, 112, 101]⟩ = true := by decide
   rw [e]
   go_enter Tryz.func112, Tryz.ntmps112
   go_wp2
   go_ret
   exact ⟨rfl, rfl⟩
 have d1 : (s.toList == [116, 121, 112, 101]) = false := by rw [beq_eq_false_iff_ne]; exact fun h => h1 (toList_injX (b := ⟨#[116, 121, 112, 101]⟩) Q59)
 by_cases h2 : s = ⟨#[97, 108, 105, 97, 115]⟩
 · subst h2
   have e : keyB ⟨#[97, 108, 105, 97, 115]⟩ = true := by decide
   rw [e]
   go_enter Tryz.func112, Tryz.ntmps112
   go_wp2
   go_ret
   exact ⟨rfl, rfl⟩
 have d2 : (s.toList == [97, 108, 105, 97, 115]) = false := by rw [beq_eq_false_iff_ne]; exact fun h => h2 (toList_injX (b := ⟨#[97, 108, 105, 97, 115]⟩) Q59)
 by_cases h3 : s = ⟨#[108, 101, 116]⟩
 · subst h3
   have e : keyB ⟨#[108, 101, 116]⟩ = true := by decide
   rw [e]
   go_enter Tryz.func112, Tryz.ntmps112
   go_wp2
   go_ret
   exact ⟨rfl, rfl⟩
 have d3 : (s.toList == [108, 101, 116]) = false := by rw [beq_eq_false_iff_ne]; exact fun h => h3 (toList_injX (b := ⟨#[108, 101, 116]⟩) Q59)
 by_cases h4 : s = ⟨#[114, 101, 99]⟩
 · subst h4
   have e : keyB ⟨#[114, 101, 99]⟩ = true := by decide
   rw [e]
   go_enter Tryz.func112, Tryz.ntmps112
   go_wp2
   go_ret
   exact ⟨rfl, rfl⟩
 have d4 : (s.toList == [114, 101, 99]) = false := by rw [beq_eq_false_iff_ne]; exact fun h => h4 (toList_injX (b := ⟨#[114, 101, 99]⟩) Q59)
 by_cases h5 : s = ⟨#[105, 110]⟩
 · subst h5
   have e : keyB ⟨#[105, 110]⟩ = true := by decide
   rw [e]
   go_enter Tryz.func112, Tryz.ntmps112
   go_wp2
   go_ret
   exact ⟨rfl, rfl⟩
 have d5 : (s.toList == [105, 110]) = false := by rw [beq_eq_false_iff_ne]; exact fun h => h5 (toList_injX (b := ⟨#[105, 110]⟩) Q59)
 by_cases h6 : s = ⟨#[102, 117, 110]⟩
 · subst h6
   have e : keyB ⟨#[102, 117, 110]⟩ = true := by decide
   rw [e]
   go_enter Tryz.func112, Tryz.ntmps112
   go_wp2
   go_ret
   exact ⟨rfl, rfl⟩
 have d6 : (s.toList == [102, 117, 110]) = false := by rw [beq_eq_false_iff_ne]; exact fun h => h6 (toList_injX (b := ⟨#[102, 117, 110]⟩) Q59)
 by_cases h7 : s = ⟨#[109, 97, 116, 99, 104]⟩
 · subst h7
   have e : keyB ⟨#[109, 97, 116, 99, 104]⟩ = true := by decide
   rw [e]
   go_enter Tryz.func112, Tryz.ntmps112
   go_wp2
   go_ret
   exact ⟨rfl, rfl⟩
 have d7 : (s.toList == [109, 97, 116, 99, 104]) = false := by rw [beq_eq_false_iff_ne]; exact fun h => h7 (toList_injX (b := ⟨#[109, 97, 116, 99, 104]⟩) Q59)
 by_cases h8 : s = ⟨#[119, 105, 116, 104]⟩
 · subst h8
   have e : keyB ⟨#[119, 105, 116, 104]⟩ = true := by decide
   rw [e]
   go_enter Tryz.func112, Tryz.ntmps112
   go_wp2
   go_ret
   exact ⟨rfl, rfl⟩
 have d8 : (s.toList == [119, 105, 116, 104]) = false := by rw [beq_eq_false_iff_ne]; exact fun h => h8 (toList_injX (b := ⟨#[119, 105, 116, 104]⟩) Q59)
 by_cases h9 : s = ⟨#[101, 110, 100]⟩
 · subst h9
   have e : keyB ⟨#[101, 110, 100]⟩ = true := by decide
   rw [e]
   go_enter Tryz.func112, Tryz.ntmps112
   go_wp2
   go_ret
   exact ⟨rfl, rfl⟩
 have d9 : (s.toList == [101, 110, 100]) = false := by rw [beq_eq_false_iff_ne]; exact fun h => h9 (toList_injX (b := ⟨#[101, 110, 100]⟩) Q59)
 by_cases h10 : s = ⟨#[101, 120, 112, 111, 114, 116]⟩
 · subst h10
   have e : keyB ⟨#[101, 120, 112, 111, 114, 116]⟩ = true := by decide
   rw [e]
   go_enter Tryz.func112, Tryz.ntmps112
   go_wp2
   go_ret
   exact ⟨rfl, rfl⟩
 have d10 : (s.toList == [101, 120, 112, 111, 114, 116]) = false := by rw [beq_eq_false_iff_ne]; exact fun h => h10 (toList_injX (b := ⟨#[101, 120, 112, 111, 114, 116]⟩) Q59)
 have e : keyB s = false := by
   unfold keyB
   simp only [h0, h1, h2, h3, h4, h5, h6, h7, h8, h9, h10, decide_false, Bool.or_false]
 rw [e]
 clear e h0 h1 h2 h3 h4 h5 h6 h7 h8 h9 h10
 go_enter Tryz.func112, Tryz.ntmps112
 go_wp2
 go_ret
 exact ⟨rfl, rfl⟩
theorem clone_anyX (s : ByteArray) (hs : s.size ≤ 4194304) (w : World) : Calls Tryz.prog 249 #[.string s] w fun e w' => e = .returned (.string s) ∧ Below w.heap.size w w' := by
 go_enter Tryz.func249, Tryz.ntmps249
 go_wp2_with (go_at_call 269; ((with_reducible refine (Tryz.stringslite_Clone s _ (by omega)).mono ?_); rintro e w1 ⟨rfl, hb⟩))
 go_ret
 exact ⟨rfl, hb⟩
def nameT (kind : Int) (s : ByteArray) : Tk × Nat :=
 if 30 < cnt nmB s.data.toList then (tk0, 0)
 else (⟨if keyB (s.extract 0 (cnt nmB s.data.toList)) then 7 else kind, s.extract 0 (cnt nmB s.data.toList), 0⟩, cnt nmB s.data.toList)
theorem firstName_anyX (s : ByteArray) (kind : Int) (hm : s.size ≤ 4194304) (w : World) :
 Calls Tryz.prog 220 #[.string s, .int .i64 kind] w fun e w' => e = .returned (.tuple #[(nameT kind s).1.v 0, .int .i64 (nameT kind s).2]) ∧ Below w.heap.size w w' := by
 have hle := cnt_le nmB s.data.toList
 rw [len_list] at hle
 obtain ⟨N, hN⟩ : ∃ N, cnt nmB s.data.toList = N := ⟨_, rfl⟩
 have HC := Hd (fun W => countName s hm W)
 have he : nameT kind s = if 30 < N then (tk0, 0) else (⟨if keyB (s.extract 0 N) then 7 else kind, s.extract 0 N, 0⟩, N) := by unfold nameT; rw [hN]
 rw [he]
 rw [hN] at hle HC
 clear he hN
 by_cases h30 : 30 < N
 · rw [if_pos h30]
   have d30 : decide ((30 : Int) < (N : Int)) = true := by simp; omega
   go_enter Tryz.func220, Tryz.ntmps220
   go_wp2_with (go_at_call 214; ((with_reducible refine (HC.out _).mono ?_); rintro e w1 ⟨rfl, rfl⟩))
   have hB : Below w.heap.size w (w.alloc (.cells #[.int .i64 0, .string ⟨#[]⟩, .int .i64 0, .int .i64 0] 159)) := below_alloc w _
   have k0 := hb_new w (.cells #[.int .i64 0, .string ⟨#[]⟩, .int .i64 0, .int .i64 0] 159)
   have r0 := hb_at k0 0 rfl
   have r1 := hb_at k0 1 rfl
   have r2 := hb_at k0 2 rfl
   have r3 := hb_at k0 3 rfl
   exact bodyPost_ret (v := .tuple #[tk0.v 0, .int .i64 0]) (by simp [results, Tryz.results220, go_sem, r0, r1, r2, r3, tk0, Tk.v]) rfl ⟨rfl, by first | exact hB | exact (((hB.setCell (by simp) _).setCell (by simp) _).setCell (by simp) _).setCell (by simp) _⟩
 · rw [if_neg h30]
   have d30 : decide ((30 : Int) < (N : Int)) = false := by simp; omega
   have HK := Hd (fun W => keyword_any (s.extract 0 N) W)
   have HL := Hd (fun W => clone_anyX (s.extract 0 N) Q55 W)
   have hNi : (N : Int) ≤ (s.size : Int) := by omega
   cases hk : keyB (s.extract 0 N)
   · rw [hk] at HK
     clear hk
     go_enter Tryz.func220, Tryz.ntmps220
     go_wp2_with (first
      | (go_at_call 214; ((with_reducible refine (HC.out _).mono ?_); rintro e w1 ⟨rfl, rfl⟩))
      | (go_at_call 112; ((with_reducible refine (HK.out _).mono ?_); rintro e w1 ⟨rfl, rfl⟩))
      | (go_at_call 249; ((with_reducible refine (HL.out _).mono ?_); rintro e w2 ⟨rfl, hb⟩; obtain ⟨hc, hf⟩ := bcellX hb; have z2 := hb.size; rw [World.size_alloc] at z2; have y2 : w.heap.size < w2.heap.size := (by omega))))
     have hB : Below w.heap.size w w2 := (below_alloc w _).trans (hb.mono (by simp))
     have k0 := (hb_below (hb_new w (.cells #[.int .i64 0, .string ⟨#[]⟩, .int .i64 0, .int .i64 0] 159)) hb (by simp))
     have r0 := hb_at k0 0 rfl
     have r1 := hb_at k0 1 rfl
     have r2 := hb_at k0 2 rfl
     have r3 := hb_at k0 3 rfl
     exact bodyPost_ret (v := .tuple #[Tk.v ⟨kind, s.extract 0 N, 0⟩ 0, .int .i64 N]) (by simp [results, Tryz.results220, go_sem, r0, r1, r2, r3, Tk.v]) rfl ⟨rfl, (((hB.setCell (by simp) _).setCell (by simp) _).setCell (by simp) _).setCell (by simp) _⟩
   · rw [hk] at HK
     clear hk
     go_enter Tryz.func220, Tryz.ntmps220
     go_wp2_with (first
      | (go_at_call 214; ((with_reducible refine (HC.out _).mono ?_); rintro e w1 ⟨rfl, rfl⟩))
      | (go_at_call 112; ((with_reducible refine (HK.out _).mono ?_); rintro e w1 ⟨rfl, rfl⟩))
      | (go_at_call 249; ((with_reducible refine (HL.out _).mono ?_); rintro e w2 ⟨rfl, hb⟩; obtain ⟨hc, hf⟩ := bcellX hb; have z2 := hb.size; rw [World.size_alloc] at z2; have y2 : w.heap.size < w2.heap.size := (by omega))))
     have hB : Below w.heap.size w w2 := (below_alloc w _).trans (hb.mono (by simp))
     have k0 := (hb_below (hb_new w (.cells #[.int .i64 0, .string ⟨#[]⟩, .int .i64 0, .int .i64 0] 159)) hb (by simp))
     have r0 := hb_at k0 0 rfl
     have r1 := hb_at k0 1 rfl
     have r2 := hb_at k0 2 rfl
     have r3 := hb_at k0 3 rfl
     exact bodyPost_ret (v := .tuple #[Tk.v ⟨7, s.extract 0 N, 0⟩ 0, .int .i64 N]) (by simp [results, Tryz.results220, go_sem, r0, r1, r2, r3, Tk.v]) rfl ⟨rfl, (((hB.setCell (by simp) _).setCell (by simp) _).setCell (by simp) _).setCell (by simp) _⟩
def sgB (c : Nat) : Bool := decide (c = 61) || decide (c = 124) || decide (c = 40) || decide (c = 41) || decide (c = 44) || decide (c = 59) || decide (c = 58) || decide (c = 46) || decide (c = 64) || decide (c = 95)
def signT (s : ByteArray) (c : Nat) : Tk × Nat :=
 if c = 45 then (⟨8, s.extract 0 2, 0⟩, 2) else if sgB c then (⟨8, s.extract 0 1, 0⟩, 1) else (tk0, 0)
theorem firstSign_any (s : ByteArray) (hm : s.size ≤ 4194304) (h0 : 0 < s.size) (h2 : s[0].toNat = 45 → 2 ≤ s.size) (w : World) :
 Calls Tryz.prog 226 #[.string s] w fun e w' => e = .returned (.tuple #[(signT s s[0].toNat).1.v 0, .int .i64 (signT s s[0].toNat).2]) ∧ Below w.heap.size w w' := by
 have hci : (0 : Int) < (s.size : Int) := by omega
 by_cases h45 : s[0].toNat = 45
 · have d45 : ((s[0].toNat : Int) == (((⟨#[45, 62]⟩ : ByteArray)[0]'(by show 0 < 2; omega)).toNat : Int)) = true := by rw [h45]; rfl
   have hs2 := h2 h45
   have he : signT s s[0].toNat = (⟨8, s.extract 0 2, 0⟩, 2) := by unfold signT; rw [if_pos h45]
   rw [he]
   clear he h45 h2
   have HL := Hd (fun W => clone_anyX (s.extract 0 2) Q55 W)
   have hNi : (2 : Int) ≤ (s.size : Int) := by omega
   go_enter Tryz.func226, Tryz.ntmps226
   go_wp2_with (go_at_call 249; ((with_reducible refine (HL.out _).mono ?_); rintro e w2 ⟨rfl, hb⟩; obtain ⟨hc, hf⟩ := bcellX hb; have z2 := hb.size; rw [World.size_alloc] at z2; have y2 : w.heap.size < w2.heap.size := (by omega)))
   have hB : Below w.heap.size w w2 := (below_alloc w _).trans (hb.mono (by simp))
   have k0 := (hb_below (hb_new w (.cells #[.int .i64 0, .string ⟨#[]⟩, .int .i64 0, .int .i64 0] 159)) hb (by simp))
   have r0 := hb_at k0 0 rfl
   have r1 := hb_at k0 1 rfl
   have r2 := hb_at k0 2 rfl
   have r3 := hb_at k0 3 rfl
   exact bodyPost_ret (v := .tuple #[Tk.v ⟨8, s.extract 0 2, 0⟩ 0, .int .i64 2]) Q43 rfl ⟨rfl, (((hB.setCell (by simp) _).setCell (by simp) _).setCell (by simp) _).setCell (by simp) _⟩
 have d45 : ((s[0].toNat : Int) == (((⟨#[45, 62]⟩ : ByteArray)[0]'(by show 0 < 2; omega)).toNat : Int)) = false := by rw [beq_eq_false_iff_ne]; intro e; exact h45 (by have e1 : (s[0].toNat : Int) = 45 := e; omega)
 by_cases h61 : s[0].toNat = 61
 · have d61 : ((s[0].toNat : Int) == 61) = true := by rw [h61]; rfl
   have he : signT s s[0].toNat = (⟨8, s.extract 0 1, 0⟩, 1) := by unfold signT; rw [if_neg h45, h61]; rfl
   rw [he]
   clear he h2  h61 h45
   have HL := Hd (fun W => clone_anyX (s.extract 0 1) Q55 W)
   have hNi : (1 : Int) ≤ (s.size : Int) := by omega
   go_enter Tryz.func226, Tryz.ntmps226
   go_wp2_with (go_at_call 249; ((with_reducible refine (HL.out _).mono ?_); rintro e w2 ⟨rfl, hb⟩; obtain ⟨hc, hf⟩ := bcellX hb; have z2 := hb.size; rw [World.size_alloc] at z2; have y2 : w.heap.size < w2.heap.size := (by omega)))
   have hB : Below w.heap.size w w2 := (below_alloc w _).trans (hb.mono (by simp))
   have k0 := (hb_below (hb_new w (.cells #[.int .i64 0, .string ⟨#[]⟩, .int .i64 0, .int .i64 0] 159)) hb (by simp))
   have r0 := hb_at k0 0 rfl
   have r1 := hb_at k0 1 rfl
   have r2 := hb_at k0 2 rfl
   have r3 := hb_at k0 3 rfl
   exact bodyPost_ret (v := .tuple #[Tk.v ⟨8, s.extract 0 1, 0⟩ 0, .int .i64 1]) Q43 rfl ⟨rfl, (((hB.setCell (by simp) _).setCell (by simp) _).setCell (by simp) _).setCell (by simp) _⟩
 have d61 : ((s[0].toNat : Int) == 61) = false := by rw [beq_eq_false_iff_ne]; omega
 by_cases h124 : s[0].toNat = 124
 · have d124 : ((s[0].toNat : Int) == 124) = true := by rw [h124]; rfl
   have he : signT s s[0].toNat = (⟨8, s.extract 0 1, 0⟩, 1) := by unfold signT; rw [if_neg h45, h124]; rfl
   rw [he]
   clear he h2 h61 h124 h45
   have HL := Hd (fun W => clone_anyX (s.extract 0 1) Q55 W)
   have hNi : (1 : Int) ≤ (s.size : Int) := by omega
   go_enter Tryz.func226, Tryz.ntmps226
   go_wp2_with (go_at_call 249; ((with_reducible refine (HL.out _).mono ?_); rintro e w2 ⟨rfl, hb⟩; obtain ⟨hc, hf⟩ := bcellX hb; have z2 := hb.size; rw [World.size_alloc] at z2; have y2 : w.heap.size < w2.heap.size := (by omega)))
   have hB : Below w.heap.size w w2 := (below_alloc w _).trans (hb.mono (by simp))
   have k0 := (hb_below (hb_new w (.cells #[.int .i64 0, .string ⟨#[]⟩, .int .i64 0, .int .i64 0] 159)) hb (by simp))
   have r0 := hb_at k0 0 rfl
   have r1 := hb_at k0 1 rfl
   have r2 := hb_at k0 2 rfl
   have r3 := hb_at k0 3 rfl
   exact bodyPost_ret (v := .tuple #[Tk.v ⟨8, s.extract 0 1, 0⟩ 0, .int .i64 1]) Q43 rfl ⟨rfl, (((hB.setCell (by simp) _).setCell (by simp) _).setCell (by simp) _).setCell (by simp) _⟩
 have d124 : ((s[0].toNat : Int) == 124) = false := by rw [beq_eq_false_iff_ne]; omega
 by_cases h40 : s[0].toNat = 40
 · have d40 : ((s[0].toNat : Int) == 40) = true := by rw [h40]; rfl
   have he : signT s s[0].toNat = (⟨8, s.extract 0 1, 0⟩, 1) := by unfold signT; rw [if_neg h45, h40]; rfl
   rw [he]
   clear he h2 h61 h124 h40 h45
   have HL := Hd (fun W => clone_anyX (s.extract 0 1) Q55 W)
   have hNi : (1 : Int) ≤ (s.size : Int) := by omega
   go_enter Tryz.func226, Tryz.ntmps226
   go_wp2_with (go_at_call 249; ((with_reducible refine (HL.out _).mono ?_); rintro e w2 ⟨rfl, hb⟩; obtain ⟨hc, hf⟩ := bcellX hb; have z2 := hb.size; rw [World.size_alloc] at z2; have y2 : w.heap.size < w2.heap.size := (by omega)))
   have hB : Below w.heap.size w w2 := (below_alloc w _).trans (hb.mono (by simp))
   have k0 := (hb_below (hb_new w (.cells #[.int .i64 0, .string ⟨#[]⟩, .int .i64 0, .int .i64 0] 159)) hb (by simp))
   have r0 := hb_at k0 0 rfl
   have r1 := hb_at k0 1 rfl
   have r2 := hb_at k0 2 rfl
   have r3 := hb_at k0 3 rfl
   exact bodyPost_ret (v := .tuple #[Tk.v ⟨8, s.extract 0 1, 0⟩ 0, .int .i64 1]) Q43 rfl ⟨rfl, (((hB.setCell (by simp) _).setCell (by simp) _).setCell (by simp) _).setCell (by simp) _⟩
 have d40 : ((s[0].toNat : Int) == 40) = false := by rw [beq_eq_false_iff_ne]; omega
 by_cases h41 : s[0].toNat = 41
 · have d41 : ((s[0].toNat : Int) == 41) = true := by rw [h41]; rfl
   have he : signT s s[0].toNat = (⟨8, s.extract 0 1, 0⟩, 1) := by unfold signT; rw [if_neg h45, h41]; rfl
   rw [he]
   clear he h2 h61 h124 h40 h41 h45
   have HL := Hd (fun W => clone_anyX (s.extract 0 1) Q55 W)
   have hNi : (1 : Int) ≤ (s.size : Int) := by omega
   go_enter Tryz.func226, Tryz.ntmps226
   go_wp2_with (go_at_call 249; ((with_reducible refine (HL.out _).mono ?_); rintro e w2 ⟨rfl, hb⟩; obtain ⟨hc, hf⟩ := bcellX hb; have z2 := hb.size; rw [World.size_alloc] at z2; have y2 : w.heap.size < w2.heap.size := (by omega)))
   have hB : Below w.heap.size w w2 := (below_alloc w _).trans (hb.mono (by simp))
   have k0 := (hb_below (hb_new w (.cells #[.int .i64 0, .string ⟨#[]⟩, .int .i64 0, .int .i64 0] 159)) hb (by simp))
   have r0 := hb_at k0 0 rfl
   have r1 := hb_at k0 1 rfl
   have r2 := hb_at k0 2 rfl
   have r3 := hb_at k0 3 rfl
   exact bodyPost_ret (v := .tuple #[Tk.v ⟨8, s.extract 0 1, 0⟩ 0, .int .i64 1]) Q43 rfl ⟨rfl, (((hB.setCell (by simp) _).setCell (by simp) _).setCell (by simp) _).setCell (by simp) _⟩
 have d41 : ((s[0].toNat : Int) == 41) = false := by rw [beq_eq_false_iff_ne]; omega
 by_cases h44 : s[0].toNat = 44
 · have d44 : ((s[0].toNat : Int) == 44) = true := by rw [h44]; rfl
   have he : signT s s[0].toNat = (⟨8, s.extract 0 1, 0⟩, 1) := by unfold signT; rw [if_neg h45, h44]; rfl
   rw [he]
   clear he h2 h61 h124 h40 h41 h44 h45
   have HL := Hd (fun W => clone_anyX (s.extract 0 1) Q55 W)
   have hNi : (1 : Int) ≤ (s.size : Int) := by omega
   go_enter Tryz.func226, Tryz.ntmps226
   go_wp2_with (go_at_call 249; ((with_reducible refine (HL.out _).mono ?_); rintro e w2 ⟨rfl, hb⟩; obtain ⟨hc, hf⟩ := bcellX hb; have z2 := hb.size; rw [World.size_alloc] at z2; have y2 : w.heap.size < w2.heap.size := (by omega)))
   have hB : Below w.heap.size w w2 := (below_alloc w _).trans (hb.mono (by simp))
   have k0 := (hb_below (hb_new w (.cells #[.int .i64 0, .string ⟨#[]⟩, .int .i64 0, .int .i64 0] 159)) hb (by simp))
   have r0 := hb_at k0 0 rfl
   have r1 := hb_at k0 1 rfl
   have r2 := hb_at k0 2 rfl
   have r3 := hb_at k0 3 rfl
   exact bodyPost_ret (v := .tuple #[Tk.v ⟨8, s.extract 0 1, 0⟩ 0, .int .i64 1]) Q43 rfl ⟨rfl, (((hB.setCell (by simp) _).setCell (by simp) _).setCell (by simp) _).setCell (by simp) _⟩
 have d44 : ((s[0].toNat : Int) == 44) = false := by rw [beq_eq_false_iff_ne]; omega
 by_cases h59 : s[0].toNat = 59
 · have d59 : ((s[0].toNat : Int) == 59) = true := by rw [h59]; rfl
   have he : signT s s[0].toNat = (⟨8, s.extract 0 1, 0⟩, 1) := by unfold signT; rw [if_neg h45, h59]; rfl
   rw [he]
   clear he h2 h61 h124 h40 h41 h44 h59 h45
   have HL := Hd (fun W => clone_anyX (s.extract 0 1) Q55 W)
   have hNi : (1 : Int) ≤ (s.size : Int) := by omega
   go_enter Tryz.func226, Tryz.ntmps226
   go_wp2_with (go_at_call 249; ((with_reducible refine (HL.out _).mono ?_); rintro e w2 ⟨rfl, hb⟩; obtain ⟨hc, hf⟩ := bcellX hb; have z2 := hb.size; rw [World.size_alloc] at z2; have y2 : w.heap.size < w2.heap.size := (by omega)))
   have hB : Below w.heap.size w w2 := (below_alloc w _).trans (hb.mono (by simp))
   have k0 := (hb_below (hb_new w (.cells #[.int .i64 0, .string ⟨#[]⟩, .int .i64 0, .int .i64 0] 159)) hb (by simp))
   have r0 := hb_at k0 0 rfl
   have r1 := hb_at k0 1 rfl
   have r2 := hb_at k0 2 rfl
   have r3 := hb_at k0 3 rfl
   exact bodyPost_ret (v := .tuple #[Tk.v ⟨8, s.extract 0 1, 0⟩ 0, .int .i64 1]) Q43 rfl ⟨rfl, (((hB.setCell (by simp) _).setCell (by simp) _).setCell (by simp) _).setCell (by simp) _⟩
 have d59 : ((s[0].toNat : Int) == 59) = false := by rw [beq_eq_false_iff_ne]; omega
 by_cases h58 : s[0].toNat = 58
 · have d58 : ((s[0].toNat : Int) == 58) = true := by rw [h58]; rfl
   have he : signT s s[0].toNat = (⟨8, s.extract 0 1, 0⟩, 1) := by unfold signT; rw [if_neg h45, h58]; rfl
   rw [he]
   clear he h2 h61 h124 h40 h41 h44 h59 h58 h45
   have HL := Hd (fun W => clone_anyX (s.extract 0 1) Q55 W)
   have hNi : (1 : Int) ≤ (s.size : Int) := by omega
   go_enter Tryz.func226, Tryz.ntmps226
   go_wp2_with (go_at_call 249; ((with_reducible refine (HL.out _).mono ?_); rintro e w2 ⟨rfl, hb⟩; obtain ⟨hc, hf⟩ := bcellX hb; have z2 := hb.size; rw [World.size_alloc] at z2; have y2 : w.heap.size < w2.heap.size := (by omega)))
   have hB : Below w.heap.size w w2 := (below_alloc w _).trans (hb.mono (by simp))
   have k0 := (hb_below (hb_new w (.cells #[.int .i64 0, .string ⟨#[]⟩, .int .i64 0, .int .i64 0] 159)) hb (by simp))
   have r0 := hb_at k0 0 rfl
   have r1 := hb_at k0 1 rfl
   have r2 := hb_at k0 2 rfl
   have r3 := hb_at k0 3 rfl
   exact bodyPost_ret (v := .tuple #[Tk.v ⟨8, s.extract 0 1, 0⟩ 0, .int .i64 1]) Q43 rfl ⟨rfl, (((hB.setCell (by simp) _).setCell (by simp) _).setCell (by simp) _).setCell (by simp) _⟩
 have d58 : ((s[0].toNat : Int) == 58) = false := by rw [beq_eq_false_iff_ne]; omega
 by_cases h46 : s[0].toNat = 46
 · have d46 : ((s[0].toNat : Int) == 46) = true := by rw [h46]; rfl
   have he : signT s s[0].toNat = (⟨8, s.extract 0 1, 0⟩, 1) := by unfold signT; rw [if_neg h45, h46]; rfl
   rw [he]
   clear he h2 h61 h124 h40 h41 h44 h59 h58 h46 h45
   have HL := Hd (fun W => clone_anyX (s.extract 0 1) Q55 W)
   have hNi : (1 : Int) ≤ (s.size : Int) := by omega
   go_enter Tryz.func226, Tryz.ntmps226
   go_wp2_with (go_at_call 249; ((with_reducible refine (HL.out _).mono ?_); rintro e w2 ⟨rfl, hb⟩; obtain ⟨hc, hf⟩ := bcellX hb; have z2 := hb.size; rw [World.size_alloc] at z2; have y2 : w.heap.size < w2.heap.size := (by omega)))
   have hB : Below w.heap.size w w2 := (below_alloc w _).trans (hb.mono (by simp))
   have k0 := (hb_below (hb_new w (.cells #[.int .i64 0, .string ⟨#[]⟩, .int .i64 0, .int .i64 0] 159)) hb (by simp))
   have r0 := hb_at k0 0 rfl
   have r1 := hb_at k0 1 rfl
   have r2 := hb_at k0 2 rfl
   have r3 := hb_at k0 3 rfl
   exact bodyPost_ret (v := .tuple #[Tk.v ⟨8, s.extract 0 1, 0⟩ 0, .int .i64 1]) Q43 rfl ⟨rfl, (((hB.setCell (by simp) _).setCell (by simp) _).setCell (by simp) _).setCell (by simp) _⟩
 have d46 : ((s[0].toNat : Int) == 46) = false := by rw [beq_eq_false_iff_ne]; omega
 by_cases h64 : s[0].toNat = 64
 · have d64 : ((s[0].toNat : Int) == 64) = true := by rw [h64]; rfl
   have he : signT s s[0].toNat = (⟨8, s.extract 0 1, 0⟩, 1) := by unfold signT; rw [if_neg h45, h64]; rfl
   rw [he]
   clear he h2 h61 h124 h40 h41 h44 h59 h58 h46 h64 h45
   have HL := Hd (fun W => clone_anyX (s.extract 0 1) Q55 W)
   have hNi : (1 : Int) ≤ (s.size : Int) := by omega
   go_enter Tryz.func226, Tryz.ntmps226
   go_wp2_with (go_at_call 249; ((with_reducible refine (HL.out _).mono ?_); rintro e w2 ⟨rfl, hb⟩; obtain ⟨hc, hf⟩ := bcellX hb; have z2 := hb.size; rw [World.size_alloc] at z2; have y2 : w.heap.size < w2.heap.size := (by omega)))
   have hB : Below w.heap.size w w2 := (below_alloc w _).trans (hb.mono (by simp))
   have k0 := (hb_below (hb_new w (.cells #[.int .i64 0, .string ⟨#[]⟩, .int .i64 0, .int .i64 0] 159)) hb (by simp))
   have r0 := hb_at k0 0 rfl
   have r1 := hb_at k0 1 rfl
   have r2 := hb_at k0 2 rfl
   have r3 := hb_at k0 3 rfl
   exact bodyPost_ret (v := .tuple #[Tk.v ⟨8, s.extract 0 1, 0⟩ 0, .int .i64 1]) Q43 rfl ⟨rfl, (((hB.setCell (by simp) _).setCell (by simp) _).setCell (by simp) _).setCell (by simp) _⟩
 have d64 : ((s[0].toNat : Int) == 64) = false := by rw [beq_eq_false_iff_ne]; omega
 by_cases h95 : s[0].toNat = 95
 · have d95 : ((s[0].toNat : Int) == 95) = true := by rw [h95]; rfl
   have he : signT s s[0].toNat = (⟨8, s.extract 0 1, 0⟩, 1) := by unfold signT; rw [if_neg h45, h95]; rfl
   rw [he]
   clear he h2 h61 h124 h40 h41 h44 h59 h58 h46 h64 h95 h45
   have HL := Hd (fun W => clone_anyX (s.extract 0 1) Q55 W)
   have hNi : (1 : Int) ≤ (s.size : Int) := by omega
   go_enter Tryz.func226, Tryz.ntmps226
   go_wp2_with (go_at_call 249; ((with_reducible refine (HL.out _).mono ?_); rintro e w2 ⟨rfl, hb⟩; obtain ⟨hc, hf⟩ := bcellX hb; have z2 := hb.size; rw [World.size_alloc] at z2; have y2 : w.heap.size < w2.heap.size := (by omega)))
   have hB : Below w.heap.size w w2 := (below_alloc w _).trans (hb.mono (by simp))
   have k0 := (hb_below (hb_new w (.cells #[.int .i64 0, .string ⟨#[]⟩, .int .i64 0, .int .i64 0] 159)) hb (by simp))
   have r0 := hb_at k0 0 rfl
   have r1 := hb_at k0 1 rfl
   have r2 := hb_at k0 2 rfl
   have r3 := hb_at k0 3 rfl
   exact bodyPost_ret (v := .tuple #[Tk.v ⟨8, s.extract 0 1, 0⟩ 0, .int .i64 1]) Q43 rfl ⟨rfl, (((hB.setCell (by simp) _).setCell (by simp) _).setCell (by simp) _).setCell (by simp) _⟩
 have d95 : ((s[0].toNat : Int) == 95) = false := by rw [beq_eq_false_iff_ne]; omega
 have he : signT s s[0].toNat = (tk0, 0) := by
   unfold signT
   rw [if_neg h45, if_neg]
   unfold sgB
   simp only [h61, h124, h40, h41, h44, h59, h58, h46, h64, h95, decide_false, Bool.or_false]
   simp
 rw [he]
 clear he h2 h61 h124 h40 h41 h44 h59 h58 h46 h64 h95 h45
 go_enter Tryz.func226, Tryz.ntmps226
 go_wp2
 have hB : Below w.heap.size w (w.alloc (.cells #[.int .i64 0, .string ⟨#[]⟩, .int .i64 0, .int .i64 0] 159)) := below_alloc w _
 have k0 := hb_new w (.cells #[.int .i64 0, .string ⟨#[]⟩, .int .i64 0, .int .i64 0] 159)
 have r0 := hb_at k0 0 rfl
 have r1 := hb_at k0 1 rfl
 have r2 := hb_at k0 2 rfl
 have r3 := hb_at k0 3 rfl
 exact bodyPost_ret (v := .tuple #[tk0.v 0, .int .i64 0]) (by simp [results, Tryz.results226, go_sem, r0, r1, r2, r3, tk0, Tk.v]) rfl ⟨rfl, by first | exact hB | exact (((hB.setCell (by simp) _).setCell (by simp) _).setCell (by simp) _).setCell (by simp) _⟩
theorem trim_yes {s : ByteArray} (h : Lib.hasPrefix s.data.toList [45] = true) : Lib.trimPrefix s.data.toList [45] = s.data.toList.drop 1 ∧ s.data.toList.head? = some 45 := by
 unfold Lib.trimPrefix
 rw [h]
 refine ⟨rfl, ?_⟩
 unfold Lib.hasPrefix at h
 cases e : s.data.toList with
 | nil => rw [e] at h; simp at h
 | cons c l => rw [e] at h; simp at h; simp [h]
theorem trim_no {s : ByteArray} (h : Lib.hasPrefix s.data.toList [45] = false) : Lib.trimPrefix s.data.toList [45] = s.data.toList ∧ s.data.toList.head? ≠ some 45 := by
 unfold Lib.trimPrefix
 rw [h]
 refine ⟨rfl, ?_⟩
 unfold Lib.hasPrefix at h
 cases e : s.data.toList with
 | nil => simp
 | cons c l =>
  rw [e] at h
  intro h1
  simp at h1
  subst h1
  simp at h
def zhB (l : List UInt8) : Bool := l.head? == some 48
def intN (l : List UInt8) : Nat := if zhB l then 1 else cnt dgB l
def intM (l : List UInt8) : Nat :=
 if Lib.hasPrefix l [45] then (if zhB (l.drop 1) || decide (intN (l.drop 1) = 0) || decide (18 < intN (l.drop 1)) then 0 else 1 + intN (l.drop 1))
 else (if decide (intN l = 0) || decide (18 < intN l) then 0 else intN l)
theorem take_list (s : ByteArray) (k : Nat) : (s.extract 0 k).toList = s.data.toList.take k := by
 rw [ByteArray.toList_eq, ByteArray.data_extract, Array.toList_extract, List.extract_eq_take_drop]
 simp
theorem ext_no {s : ByteArray} (h : s.data.toList.head? ≠ some 45) (k : Nat) : ((s.extract 0 k).toList == [45, 48]) = false := by
 rw [beq_eq_false_iff_ne, take_list]
 intro e
 apply h
 cases e1 : s.data.toList with
 | nil => rw [e1] at e; simp at e
 | cons c l =>
  rw [e1] at e
  cases k with
  | zero => simp at e
  | succ k => simp at e; simp [e.1]
theorem head_at {s : ByteArray} (h : 0 < s.size) : s.data.toList.head? = some s[0] := by
 rw [List.head?_eq_getElem?, at_list s 0 h]
theorem zh_at {s : ByteArray} (h : 0 < s.size) : zhB s.data.toList = ((s[0].toNat : Int) == 48) := by
 unfold zhB
 rw [head_at h]
 generalize s[0] = c
 have hc : c.toNat < 256 := c.toNat_lt
 by_cases e : c = 48
 · subst e; rfl
 · have e1 : ((c.toNat : Int) == 48) = false := by
    rw [beq_eq_false_iff_ne]
    intro e2
    apply e
    apply UInt8.toNat_inj.1
    show c.toNat = 48
    omega
   rw [e1]
   simpa using e
theorem zh_cnt {l : List UInt8} (h : zhB l = true) : 1 ≤ cnt dgB l := by
 unfold zhB at h
 cases l with
 | nil => simp at h
 | cons c l =>
  simp at h
  subst h
  unfold cnt
  rw [List.takeWhile_cons]
  simp [dgB]
theorem intBytes_no (s : ByteArray) (hm : s.size ≤ 4194304) (hp : Lib.hasPrefix s.data.toList [45] = false) (w : World) :
 Calls Tryz.prog 256 #[.string s] w fun e w' => e = .returned (.int .i64 (intM s.data.toList : Nat)) ∧ w = w' := by
 have HT := Hd (fun W => (Tryz.strings_TrimPrefix s ⟨#[45]⟩ W).mono fun e w' (h : _ ∧ _) => (⟨by rw [h.1]; exact congrArg (fun l : List UInt8 => Ending.returned (.string ⟨l.toArray⟩)) (trim_no hp).1, h.2.symm⟩ : e = .returned (.string ⟨s.data.toList.toArray⟩) ∧ W = w'))
 have hss : (⟨s.data.toList.toArray⟩ : ByteArray) = s := by simp
 rw [hss] at HT
 clear hss
 have HE := Hd (fun k => ext_no (trim_no hp).2 k)
 have hM : intM s.data.toList = (if decide (intN s.data.toList = 0) || decide (18 < intN s.data.toList) then 0 else intN s.data.toList) := by unfold intM; rw [hp]; rfl
 rw [hM]
 clear hM hp
 have hle := cnt_le dgB s.data.toList
 rw [len_list] at hle
 obtain ⟨N, hN⟩ : ∃ N, cnt dgB s.data.toList = N := ⟨_, rfl⟩
 have HC := Hd (fun W => countDigit s hm W)
 rw [hN] at hle HC
 by_cases h0 : N = 0
 · have hz : zhB s.data.toList = false := by
    cases hz : zhB s.data.toList
    · rfl
    · have := zh_cnt hz; omega
   have hi : intN s.data.toList = N := by unfold intN; rw [hz, hN]; rfl
   rw [hi]
   clear hi hN hz
   subst h0
   go_enter Tryz.func256, Tryz.ntmps256
   go_wp2_with (first
    | (go_at_call 250; ((with_reducible refine (HT.out _).mono ?_); rintro e w1 ⟨rfl, rfl⟩))
    | (go_at_call 214; ((with_reducible refine (HC.out _).mono ?_); rintro e w1 ⟨rfl, rfl⟩)))
   go_ret
   exact ⟨rfl, rfl⟩
 have hsz : 0 < s.size := by omega
 have n0 : ((N : Int) == 0) = false := by rw [beq_eq_false_iff_ne]; omega
 have hsi : (0 : Int) < (s.size : Int) := by omega
 have hNi : (0 : Int) < (N : Int) := by omega
 have hz := zh_at hsz
 cases hb : ((s[0].toNat : Int) == 48)
 · rw [hb] at hz
   have hi : intN s.data.toList = N := by unfold intN; rw [hz, hN]; rfl
   rw [hi]
   clear hi hN hz
   have he := HE.out N
   by_cases h18 : 18 < N
   · have d18 : decide ((18 : Int) < (N : Int)) = true := by simp; omega
     have hr : (if decide (N = 0) || decide (18 < N) then 0 else N) = 0 := by simp [h18]
     rw [hr]
     clear hr
     go_enter Tryz.func256, Tryz.ntmps256
     go_wp2_with (first
      | (go_at_call 250; ((with_reducible refine (HT.out _).mono ?_); rintro e w1 ⟨rfl, rfl⟩))
      | (go_at_call 214; ((with_reducible refine (HC.out _).mono ?_); rintro e w1 ⟨rfl, rfl⟩)))
     go_ret
     exact ⟨rfl, rfl⟩
   · have d18 : decide ((18 : Int) < (N : Int)) = false := by simp; omega
     have hr : (if decide (N = 0) || decide (18 < N) then 0 else N) = N := by simp [h18, h0]
     rw [hr]
     clear hr
     go_enter Tryz.func256, Tryz.ntmps256
     go_wp2_with (first
      | (go_at_call 250; ((with_reducible refine (HT.out _).mono ?_); rintro e w1 ⟨rfl, rfl⟩))
      | (go_at_call 214; ((with_reducible refine (HC.out _).mono ?_); rintro e w1 ⟨rfl, rfl⟩)))
     go_ret
     exact ⟨rfl, rfl⟩
 · rw [hb] at hz
   have hi : intN s.data.toList = 1 := by unfold intN; rw [hz]; rfl
   rw [hi]
   clear hi hN hz
   have he := HE.out 1
   have hsi1 : (1 : Int) ≤ (s.size : Int) := by omega
   go_enter Tryz.func256, Tryz.ntmps256
   go_wp2_with (first
    | (go_at_call 250; ((with_reducible refine (HT.out _).mono ?_); rintro e w1 ⟨rfl, rfl⟩))
    | (go_at_call 214; ((with_reducible refine (HC.out _).mono ?_); rintro e w1 ⟨rfl, rfl⟩)))
   go_ret
   exact ⟨rfl, rfl⟩
theorem ext_neg {s : ByteArray} {D : List UInt8} (h : s.data.toList = 45 :: D) (k : Nat) : ((s.extract 0 (1 + k)).toList == [45, 48]) = (D.take k == [48]) := by
 rw [take_list, h, Nat.add_comm 1 k, List.take_succ_cons]
 rfl
theorem take_zh {D : List UInt8} (h : zhB D = true) : (D.take 1 == [48]) = true := by
 unfold zhB at h
 cases D with
 | nil => simp at h
 | cons c l => simp at h; subst h; rfl
theorem take_nz {D : List UInt8} (h : zhB D = false) (k : Nat) : (D.take k == [48]) = false := by
 unfold zhB at h
 rw [beq_eq_false_iff_ne]
 intro e
 cases D with
 | nil => simp at e
 | cons c l =>
  cases k with
  | zero => simp at e
  | succ k => simp at e; simp [e.1] at h
theorem intBytes_neg (s : ByteArray) (hm : s.size ≤ 4194304) (hp : Lib.hasPrefix s.data.toList [45] = true) (w : World) :
 Calls Tryz.prog 256 #[.string s] w fun e w' => e = .returned (.int .i64 (intM s.data.toList : Nat)) ∧ w = w' := by
 have HT := Hd (fun W => (Tryz.strings_TrimPrefix s ⟨#[45]⟩ W).mono fun e w' (h : _ ∧ _) => (⟨by rw [h.1]; exact congrArg (fun l : List UInt8 => Ending.returned (.string ⟨l.toArray⟩)) (trim_yes hp).1, h.2.symm⟩ : e = .returned (.string ⟨(s.data.toList.drop 1).toArray⟩) ∧ W = w'))
 have hcons : s.data.toList = 45 :: s.data.toList.drop 1 := by
  have h1 := (trim_yes hp).2
  cases e : s.data.toList with
  | nil => rw [e] at h1; cases h1
  | cons c l => rw [e] at h1; cases h1; rfl
 have hM : intM s.data.toList = (if zhB (s.data.toList.drop 1) || decide (intN (s.data.toList.drop 1) = 0) || decide (18 < intN (s.data.toList.drop 1)) then 0 else 1 + intN (s.data.toList.drop 1)) := by unfold intM; rw [hp]; rfl
 rw [hM]
 clear hM hp
 have HE := Hd (fun k => ext_neg hcons k)
 have hln : s.data.toList.length = 1 + (s.data.toList.drop 1).length := by
  have h := congrArg List.length hcons
  rw [List.length_cons] at h
  omega
 rw [len_list] at hln
 clear hcons
 obtain ⟨D, hD⟩ : ∃ D : ByteArray, D.data.toList = s.data.toList.drop 1 := ⟨⟨(s.data.toList.drop 1).toArray⟩, rfl⟩
 have hDD : (⟨(s.data.toList.drop 1).toArray⟩ : ByteArray) = D := by rw [← hD]
 rw [hDD] at HT
 rw [← hD] at HE hln ⊢
 rw [len_list] at hln
 clear hDD hD
 have hsub : (s.size : Int) - (D.size : Int) = 1 := by omega
 have hle := cnt_le dgB D.data.toList
 rw [len_list] at hle
 obtain ⟨N, hN⟩ : ∃ N, cnt dgB D.data.toList = N := ⟨_, rfl⟩
 have HC := Hd (fun W => countDigit D (by omega) W)
 rw [hN] at hle HC
 by_cases h0 : N = 0
 · have hz : zhB D.data.toList = false := by
    cases hz : zhB D.data.toList
    · rfl
    · have := zh_cnt hz; omega
   have hi : intN D.data.toList = N := by unfold intN; rw [hz, hN]; rfl
   rw [hi, hz]
   clear hi hN hz
   subst h0
   go_enter Tryz.func256, Tryz.ntmps256
   go_wp2_with (first
    | (go_at_call 250; ((with_reducible refine (HT.out _).mono ?_); rintro e w1 ⟨rfl, rfl⟩))
    | (go_at_call 214; ((with_reducible refine (HC.out _).mono ?_); rintro e w1 ⟨rfl, rfl⟩)))
   go_ret
   exact ⟨rfl, rfl⟩
 have hsz : 0 < D.size := by omega
 have n0 : ((N : Int) == 0) = false := by rw [beq_eq_false_iff_ne]; omega
 have hsi : (0 : Int) < (D.size : Int) := by omega
 have hNi : (0 : Int) < (N : Int) := by omega
 have hz := zh_at hsz
 cases hb : ((D[0].toNat : Int) == 48)
 · rw [hb] at hz
   have hi : intN D.data.toList = N := by unfold intN; rw [hz, hN]; rfl
   rw [hi, hz]
   have he := HE.out N
   rw [take_nz hz] at he
   clear hi hN hz
   have hcast : (1 : Int) + (N : Int) ≤ (s.size : Int) := by omega
   by_cases h18 : 18 < N
   · have d18 : decide ((18 : Int) < (N : Int)) = true := by simp; omega
     have hr : (if false || decide (N = 0) || decide (18 < N) then 0 else 1 + N) = 0 := by simp [h18]
     rw [hr]
     clear hr
     go_enter Tryz.func256, Tryz.ntmps256
     go_wp2_with (first
      | (go_at_call 250; ((with_reducible refine (HT.out _).mono ?_); rintro e w1 ⟨rfl, rfl⟩))
      | (go_at_call 214; ((with_reducible refine (HC.out _).mono ?_); rintro e w1 ⟨rfl, rfl⟩)))
     go_ret
     exact ⟨rfl, rfl⟩
   · have d18 : decide ((18 : Int) < (N : Int)) = false := by simp; omega
     have hr : (if false || decide (N = 0) || decide (18 < N) then 0 else 1 + N) = 1 + N := by simp [h18, h0]
     rw [hr]
     clear hr
     go_enter Tryz.func256, Tryz.ntmps256
     go_wp2_with (first
      | (go_at_call 250; ((with_reducible refine (HT.out _).mono ?_); rintro e w1 ⟨rfl, rfl⟩))
      | (go_at_call 214; ((with_reducible refine (HC.out _).mono ?_); rintro e w1 ⟨rfl, rfl⟩)))
     go_ret
     exact ⟨rfl, rfl⟩
 · rw [hb] at hz
   have hi : intN D.data.toList = 1 := by unfold intN; rw [hz]; rfl
   rw [hi, hz]
   have he := HE.out 1
   rw [take_zh hz] at he
   clear hi hN hz
   have hsi1 : (2 : Int) ≤ (s.size : Int) := by omega
   go_enter Tryz.func256, Tryz.ntmps256
   go_wp2_with (first
    | (go_at_call 250; ((with_reducible refine (HT.out _).mono ?_); rintro e w1 ⟨rfl, rfl⟩))
    | (go_at_call 214; ((with_reducible refine (HC.out _).mono ?_); rintro e w1 ⟨rfl, rfl⟩)))
   go_ret
   exact ⟨rfl, rfl⟩
theorem intBytes_any (s : ByteArray) (hm : s.size ≤ 4194304) (w : World) :
 Calls Tryz.prog 256 #[.string s] w fun e w' => e = .returned (.int .i64 (intM s.data.toList : Nat)) ∧ w = w' := by
 cases hp : Lib.hasPrefix s.data.toList [45]
 · exact intBytes_no s hm hp w
 · exact intBytes_neg s hm hp w
end Go.Proofs.YtmkjalnlldpdcaaGreatDoor
