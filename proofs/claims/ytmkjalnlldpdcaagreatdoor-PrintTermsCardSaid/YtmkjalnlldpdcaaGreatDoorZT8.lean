/- Texts in a row: Ln Lo Ma Mb. -/
import Derived.Test.YtmkjalnlldpdcaaGreatDoorZT7
import Derived.Lib.ItoaNum
import Derived.Lib.ItoaMem
import Derived.Lib.ItoaLen
set_option maxHeartbeats 16000000
set_option maxRecDepth 100000
namespace Go.Proofs.YtmkjalnlldpdcaaGreatDoor
open Go.RowKit
set_option linter.unusedSimpArgs false
set_option linter.unusedVariables false
def firstT (s : ByteArray) : Tk × Nat := match s.data.toList[0]? with
 | none => (tk0, 0)
 | some c =>
  if (smB c || (decide (c.toNat = 95) && decide (1 < cnt nmB s.data.toList))) = true then nameT 1 s
  else if grB c = true then nameT 2 s
  else if c.toNat = 39 then varT s
  else if c.toNat = 34 then textT s
  else if (dgB c || (decide (c.toNat = 45) && !Lib.hasPrefix s.data.toList [45, 62])) = true then numT s
  else signT s c.toNat
theorem bytes_far {c : UInt8} : (c.toNat = 39 ∨ c.toNat = 34 ∨ c.toNat = 45 ∨ c.toNat = 95 → smB c = false ∧ grB c = false ∧ dgB c = false) ∧ (grB c = true → smB c = false ∧ dgB c = false) ∧ (dgB c = true → smB c = false ∧ grB c = false) := by
 unfold smB grB dgB
 generalize c.toNat = n
 simp only [Bool.and_eq_true, Bool.and_eq_false_iff, decide_eq_true_eq, decide_eq_false_iff_not]
 omega
theorem first_any (s : ByteArray) (hm : s.size ≤ 4194304) (w : World) (hw : EscW w) :
 Calls Tryz.prog 172 #[.string s] w fun e w' => e = .returned (.tuple #[(firstT s).1.v 0, .int .i64 (firstT s).2]) ∧ Below w.heap.size w w' := by
 have HE := Hd hw
 clear hw
 by_cases hz : 0 < s.size
 · have hci : (0 : Int) < (s.size : Int) := by omega
   have hne := ne_nil hz
   have hat := at_list s 0 hz
   have hF : firstT s = (if (smB s[0] || (decide (s[0].toNat = 95) && decide (1 < cnt nmB s.data.toList))) = true then nameT 1 s
     else if grB s[0] = true then nameT 2 s
     else if s[0].toNat = 39 then varT s
     else if s[0].toNat = 34 then textT s
     else if (dgB s[0] || (decide (s[0].toNat = 45) && !Lib.hasPrefix s.data.toList [45, 62])) = true then numT s
     else signT s s[0].toNat) := by unfold firstT; rw [hat]
   rw [hF]
   clear hF
   have h39s : s[0].toNat = 39 → s.data.toList[0]? = some 39 := fun h => by rw [hat]; exact congrArg some (UInt8.toNat_inj.1 h)
   have HS := Hd (fun W => isSmall_any s[0] W)
   have HG := Hd (fun W => isGreat_any s[0] W)
   have HD := Hd (fun W => lexDigit_any s[0] W)
   have HN := Hd (fun W => countName s hm W)
   have far := bytes_far (c := s[0])
   clear hat
   rcases (Bool.eq_false_or_eq_true (smB s[0])) with hs | hs
   · rw [if_pos (by rw [hs]; rfl)]
     rw [hs] at HS
     clear hs far
     have HX0 : ∀ W, EscW W → Calls Tryz.prog 220 #[.string s, .int .i64 1] W fun e w' => e = .returned (.tuple #[(nameT 1 s).1.v 0, .int .i64 (nameT 1 s).2]) ∧ Below W.heap.size W w' := fun W hW => firstName_anyX s 1 hm W
     generalize nameT 1 s = T at HX0 ⊢
     obtain ⟨⟨tk, ts, tn⟩, m⟩ := T
     have HX : RowKit.Hid (∀ W, EscW W → Calls Tryz.prog 220 #[.string s, .int .i64 1] W fun e w' => e = .returned (.tuple #[.agg #[.int .i64 tk, .string ts, .int .i64 tn, .int .i64 0], .int .i64 (m : Nat)]) ∧ Below W.heap.size W w') := Hd HX0
     clear HX0
     go_enter Tryz.func172, Tryz.ntmps172
     go_wp2_with (first
      | (go_at_call 220; refine (HX.out _ (HE.out.alloc _)).mono ?_; rintro e w2 ⟨rfl, hb⟩; obtain ⟨hc, hf⟩ := bcellX hb; have z2 := hb.size; rw [World.size_alloc] at z2; have y2 : w.heap.size < w2.heap.size := (by omega))
      | (go_at_call 218; ((with_reducible refine (HS.out _).mono ?_); rintro e w1 ⟨rfl, rfl⟩)))
     have hB : Below w.heap.size w w2 := (below_alloc w _).trans (hb.mono (by simp))
     have k0 := (hb_below (hb_new w (.cells #[.int .i64 0, .string ⟨#[]⟩, .int .i64 0, .int .i64 0] 159)) hb (by simp))
     have r0 := hb_at k0 0 rfl
     have r1 := hb_at k0 1 rfl
     have r2 := hb_at k0 2 rfl
     have r3 := hb_at k0 3 rfl
     exact bodyPost_ret (v := .tuple #[.agg #[.int .i64 tk, .string ts, .int .i64 tn, .int .i64 0], .int .i64 (m : Nat)]) Q45 rfl ⟨rfl, (((hB.setCell (by simp) _).setCell (by simp) _).setCell (by simp) _).setCell (by simp) _⟩
   by_cases h95 : s[0].toNat = 95
   · have e95 : ((s[0].toNat : Int) == 95) = true := by rw [h95]; rfl
     have f39 : ((s[0].toNat : Int) == (((⟨#[39]⟩ : ByteArray)[0]'(by show 0 < 1; omega)).toNat : Int)) = false := by rw [h95]; rfl
     have f34 : ((s[0].toNat : Int) == 34) = false := by rw [h95]; rfl
     have f45 : ((s[0].toNat : Int) == (((⟨#[45]⟩ : ByteArray)[0]'(by show 0 < 1; omega)).toNat : Int)) = false := by rw [h95]; rfl
     have hgd := far.1 (.inr (.inr (.inr h95)))
     rw [hs] at HS
     rw [hgd.2.1] at HG
     rw [hgd.2.2] at HD
     by_cases hc1 : 1 < cnt nmB s.data.toList
     · rw [if_pos (by rw [hs, h95]; simp [hc1])]
       have d1 : decide ((1 : Int) < (cnt nmB s.data.toList : Nat)) = true := by simp; omega
       clear hs far hgd h39s h95
       have HX0 : ∀ W, EscW W → Calls Tryz.prog 220 #[.string s, .int .i64 1] W fun e w' => e = .returned (.tuple #[(nameT 1 s).1.v 0, .int .i64 (nameT 1 s).2]) ∧ Below W.heap.size W w' := fun W hW => firstName_anyX s 1 hm W
       generalize nameT 1 s = T at HX0 ⊢
       obtain ⟨⟨tk, ts, tn⟩, m⟩ := T
       have HX : RowKit.Hid (∀ W, EscW W → Calls Tryz.prog 220 #[.string s, .int .i64 1] W fun e w' => e = .returned (.tuple #[.agg #[.int .i64 tk, .string ts, .int .i64 tn, .int .i64 0], .int .i64 (m : Nat)]) ∧ Below W.heap.size W w') := Hd HX0
       clear HX0
       go_enter Tryz.func172, Tryz.ntmps172
       go_wp2_with (first
        | (go_at_call 220; refine (HX.out _ (HE.out.alloc _)).mono ?_; rintro e w2 ⟨rfl, hb⟩; obtain ⟨hc, hf⟩ := bcellX hb; have z2 := hb.size; rw [World.size_alloc] at z2; have y2 : w.heap.size < w2.heap.size := (by omega))
        | (go_at_call 218; ((with_reducible refine (HS.out _).mono ?_); rintro e w1 ⟨rfl, rfl⟩))
        | (go_at_call 214; ((with_reducible refine (HN.out _).mono ?_); rintro e w1 ⟨rfl, rfl⟩)))
       have hB : Below w.heap.size w w2 := (below_alloc w _).trans (hb.mono (by simp))
       have k0 := (hb_below (hb_new w (.cells #[.int .i64 0, .string ⟨#[]⟩, .int .i64 0, .int .i64 0] 159)) hb (by simp))
       have r0 := hb_at k0 0 rfl
       have r1 := hb_at k0 1 rfl
       have r2 := hb_at k0 2 rfl
       have r3 := hb_at k0 3 rfl
       exact bodyPost_ret (v := .tuple #[.agg #[.int .i64 tk, .string ts, .int .i64 tn, .int .i64 0], .int .i64 (m : Nat)]) Q45 rfl ⟨rfl, (((hB.setCell (by simp) _).setCell (by simp) _).setCell (by simp) _).setCell (by simp) _⟩
     · rw [if_neg (by rw [hs, h95]; simp [hc1]), if_neg (by rw [hgd.2.1]; simp), if_neg (by omega), if_neg (by omega), if_neg (by rw [hgd.2.2, h95]; simp)]
       have d1 : decide ((1 : Int) < (cnt nmB s.data.toList : Nat)) = false := by simp; omega
       have hsg : s[0].toNat = 45 → 2 ≤ s.size := by omega
       clear hs far hgd h39s h95
       have HX0 : ∀ W, EscW W → Calls Tryz.prog 226 #[.string s] W fun e w' => e = .returned (.tuple #[(signT s s[0].toNat).1.v 0, .int .i64 (signT s s[0].toNat).2]) ∧ Below W.heap.size W w' := fun W hW => firstSign_any s hm hz hsg W
       generalize signT s s[0].toNat = T at HX0 ⊢
       obtain ⟨⟨tk, ts, tn⟩, m⟩ := T
       have HX : RowKit.Hid (∀ W, EscW W → Calls Tryz.prog 226 #[.string s] W fun e w' => e = .returned (.tuple #[.agg #[.int .i64 tk, .string ts, .int .i64 tn, .int .i64 0], .int .i64 (m : Nat)]) ∧ Below W.heap.size W w') := Hd HX0
       clear HX0
       go_enter Tryz.func172, Tryz.ntmps172
       go_wp2_with (first
        | (go_at_call 226; refine (HX.out _ (HE.out.alloc _)).mono ?_; rintro e w2 ⟨rfl, hb⟩; obtain ⟨hc, hf⟩ := bcellX hb; have z2 := hb.size; rw [World.size_alloc] at z2; have y2 : w.heap.size < w2.heap.size := (by omega))
        | (go_at_call 218; ((with_reducible refine (HS.out _).mono ?_); rintro e w1 ⟨rfl, rfl⟩))
        | (go_at_call 214; ((with_reducible refine (HN.out _).mono ?_); rintro e w1 ⟨rfl, rfl⟩))
        | (go_at_call 221; ((with_reducible refine (HG.out _).mono ?_); rintro e w1 ⟨rfl, rfl⟩))
        | (go_at_call 224; ((with_reducible refine (HD.out _).mono ?_); rintro e w1 ⟨rfl, rfl⟩)))
       have hB : Below w.heap.size w w2 := (below_alloc w _).trans (hb.mono (by simp))
       have k0 := (hb_below (hb_new w (.cells #[.int .i64 0, .string ⟨#[]⟩, .int .i64 0, .int .i64 0] 159)) hb (by simp))
       have r0 := hb_at k0 0 rfl
       have r1 := hb_at k0 1 rfl
       have r2 := hb_at k0 2 rfl
       have r3 := hb_at k0 3 rfl
       exact bodyPost_ret (v := .tuple #[.agg #[.int .i64 tk, .string ts, .int .i64 tn, .int .i64 0], .int .i64 (m : Nat)]) Q45 rfl ⟨rfl, (((hB.setCell (by simp) _).setCell (by simp) _).setCell (by simp) _).setCell (by simp) _⟩
   have e95 : ((s[0].toNat : Int) == 95) = false := by rw [beq_eq_false_iff_ne]; omega
   rw [if_neg (by rw [hs]; simp [h95])]
   rw [hs] at HS
   rcases (Bool.eq_false_or_eq_true (grB s[0])) with hg | hg
   · rw [if_pos hg]
     rw [hg] at HG
     clear hs far hg h39s h95
     have HX0 : ∀ W, EscW W → Calls Tryz.prog 220 #[.string s, .int .i64 2] W fun e w' => e = .returned (.tuple #[(nameT 2 s).1.v 0, .int .i64 (nameT 2 s).2]) ∧ Below W.heap.size W w' := fun W hW => firstName_anyX s 2 hm W
     generalize nameT 2 s = T at HX0 ⊢
     obtain ⟨⟨tk, ts, tn⟩, m⟩ := T
     have HX : RowKit.Hid (∀ W, EscW W → Calls Tryz.prog 220 #[.string s, .int .i64 2] W fun e w' => e = .returned (.tuple #[.agg #[.int .i64 tk, .string ts, .int .i64 tn, .int .i64 0], .int .i64 (m : Nat)]) ∧ Below W.heap.size W w') := Hd HX0
     clear HX0
     go_enter Tryz.func172, Tryz.ntmps172
     go_wp2_with (first
      | (go_at_call 220; refine (HX.out _ (HE.out.alloc _)).mono ?_; rintro e w2 ⟨rfl, hb⟩; obtain ⟨hc, hf⟩ := bcellX hb; have z2 := hb.size; rw [World.size_alloc] at z2; have y2 : w.heap.size < w2.heap.size := (by omega))
      | (go_at_call 218; ((with_reducible refine (HS.out _).mono ?_); rintro e w1 ⟨rfl, rfl⟩))
      | (go_at_call 221; ((with_reducible refine (HG.out _).mono ?_); rintro e w1 ⟨rfl, rfl⟩)))
     have hB : Below w.heap.size w w2 := (below_alloc w _).trans (hb.mono (by simp))
     have k0 := (hb_below (hb_new w (.cells #[.int .i64 0, .string ⟨#[]⟩, .int .i64 0, .int .i64 0] 159)) hb (by simp))
     have r0 := hb_at k0 0 rfl
     have r1 := hb_at k0 1 rfl
     have r2 := hb_at k0 2 rfl
     have r3 := hb_at k0 3 rfl
     exact bodyPost_ret (v := .tuple #[.agg #[.int .i64 tk, .string ts, .int .i64 tn, .int .i64 0], .int .i64 (m : Nat)]) Q45 rfl ⟨rfl, (((hB.setCell (by simp) _).setCell (by simp) _).setCell (by simp) _).setCell (by simp) _⟩
   rw [if_neg (by rw [hg]; simp)]
   rw [hg] at HG
   by_cases h39 : s[0].toNat = 39
   · have e39 : ((s[0].toNat : Int) == (((⟨#[39]⟩ : ByteArray)[0]'(by show 0 < 1; omega)).toNat : Int)) = true := by rw [h39]; rfl
     have h39' := h39s h39
     rw [if_pos h39]
     clear hs far hg h39s h95 h39
     have HX0 : ∀ W, EscW W → Calls Tryz.prog 222 #[.string s] W fun e w' => e = .returned (.tuple #[(varT s).1.v 0, .int .i64 (varT s).2]) ∧ Below W.heap.size W w' := fun W hW => firstVar_any s hm h39' W
     generalize varT s = T at HX0 ⊢
     obtain ⟨⟨tk, ts, tn⟩, m⟩ := T
     have HX : RowKit.Hid (∀ W, EscW W → Calls Tryz.prog 222 #[.string s] W fun e w' => e = .returned (.tuple #[.agg #[.int .i64 tk, .string ts, .int .i64 tn, .int .i64 0], .int .i64 (m : Nat)]) ∧ Below W.heap.size W w') := Hd HX0
     clear HX0
     go_enter Tryz.func172, Tryz.ntmps172
     go_wp2_with (first
      | (go_at_call 222; refine (HX.out _ (HE.out.alloc _)).mono ?_; rintro e w2 ⟨rfl, hb⟩; obtain ⟨hc, hf⟩ := bcellX hb; have z2 := hb.size; rw [World.size_alloc] at z2; have y2 : w.heap.size < w2.heap.size := (by omega))
      | (go_at_call 218; ((with_reducible refine (HS.out _).mono ?_); rintro e w1 ⟨rfl, rfl⟩))
      | (go_at_call 221; ((with_reducible refine (HG.out _).mono ?_); rintro e w1 ⟨rfl, rfl⟩)))
     have hB : Below w.heap.size w w2 := (below_alloc w _).trans (hb.mono (by simp))
     have k0 := (hb_below (hb_new w (.cells #[.int .i64 0, .string ⟨#[]⟩, .int .i64 0, .int .i64 0] 159)) hb (by simp))
     have r0 := hb_at k0 0 rfl
     have r1 := hb_at k0 1 rfl
     have r2 := hb_at k0 2 rfl
     have r3 := hb_at k0 3 rfl
     exact bodyPost_ret (v := .tuple #[.agg #[.int .i64 tk, .string ts, .int .i64 tn, .int .i64 0], .int .i64 (m : Nat)]) Q45 rfl ⟨rfl, (((hB.setCell (by simp) _).setCell (by simp) _).setCell (by simp) _).setCell (by simp) _⟩
   have e39 : ((s[0].toNat : Int) == (((⟨#[39]⟩ : ByteArray)[0]'(by show 0 < 1; omega)).toNat : Int)) = false := by rw [beq_eq_false_iff_ne]; intro e; exact h39 (by have e1 : (s[0].toNat : Int) = 39 := e; omega)
   rw [if_neg h39]
   by_cases h34 : s[0].toNat = 34
   · have e34 : ((s[0].toNat : Int) == 34) = true := by rw [h34]; rfl
     rw [if_pos h34]
     clear hs far hg h39s h95 h39 h34
     have HX0 : ∀ W, EscW W → Calls Tryz.prog 223 #[.string s] W fun e w' => e = .returned (.tuple #[(textT s).1.v 0, .int .i64 (textT s).2]) ∧ Below W.heap.size W w' := fun W hW => firstText_any s hm W hW
     generalize textT s = T at HX0 ⊢
     obtain ⟨⟨tk, ts, tn⟩, m⟩ := T
     have HX : RowKit.Hid (∀ W, EscW W → Calls Tryz.prog 223 #[.string s] W fun e w' => e = .returned (.tuple #[.agg #[.int .i64 tk, .string ts, .int .i64 tn, .int .i64 0], .int .i64 (m : Nat)]) ∧ Below W.heap.size W w') := Hd HX0
     clear HX0
     go_enter Tryz.func172, Tryz.ntmps172
     go_wp2_with (first
      | (go_at_call 223; refine (HX.out _ (HE.out.alloc _)).mono ?_; rintro e w2 ⟨rfl, hb⟩; obtain ⟨hc, hf⟩ := bcellX hb; have z2 := hb.size; rw [World.size_alloc] at z2; have y2 : w.heap.size < w2.heap.size := (by omega))
      | (go_at_call 218; ((with_reducible refine (HS.out _).mono ?_); rintro e w1 ⟨rfl, rfl⟩))
      | (go_at_call 221; ((with_reducible refine (HG.out _).mono ?_); rintro e w1 ⟨rfl, rfl⟩)))
     have hB : Below w.heap.size w w2 := (below_alloc w _).trans (hb.mono (by simp))
     have k0 := (hb_below (hb_new w (.cells #[.int .i64 0, .string ⟨#[]⟩, .int .i64 0, .int .i64 0] 159)) hb (by simp))
     have r0 := hb_at k0 0 rfl
     have r1 := hb_at k0 1 rfl
     have r2 := hb_at k0 2 rfl
     have r3 := hb_at k0 3 rfl
     exact bodyPost_ret (v := .tuple #[.agg #[.int .i64 tk, .string ts, .int .i64 tn, .int .i64 0], .int .i64 (m : Nat)]) Q45 rfl ⟨rfl, (((hB.setCell (by simp) _).setCell (by simp) _).setCell (by simp) _).setCell (by simp) _⟩
   have e34 : ((s[0].toNat : Int) == 34) = false := by rw [beq_eq_false_iff_ne]; omega
   rw [if_neg h34]
   rcases (Bool.eq_false_or_eq_true (dgB s[0])) with hd | hd
   · rw [if_pos (by rw [hd]; rfl)]
     rw [hd] at HD
     clear hs far hg h39s h95 h39 h34 hd
     have HX0 : ∀ W, EscW W → Calls Tryz.prog 225 #[.string s] W fun e w' => e = .returned (.tuple #[(numT s).1.v 0, .int .i64 (numT s).2]) ∧ Below W.heap.size W w' := fun W hW => firstNumber_any s hm W
     generalize numT s = T at HX0 ⊢
     obtain ⟨⟨tk, ts, tn⟩, m⟩ := T
     have HX : RowKit.Hid (∀ W, EscW W → Calls Tryz.prog 225 #[.string s] W fun e w' => e = .returned (.tuple #[.agg #[.int .i64 tk, .string ts, .int .i64 tn, .int .i64 0], .int .i64 (m : Nat)]) ∧ Below W.heap.size W w') := Hd HX0
     clear HX0
     go_enter Tryz.func172, Tryz.ntmps172
     go_wp2_with (first
      | (go_at_call 225; refine (HX.out _ (HE.out.alloc _)).mono ?_; rintro e w2 ⟨rfl, hb⟩; obtain ⟨hc, hf⟩ := bcellX hb; have z2 := hb.size; rw [World.size_alloc] at z2; have y2 : w.heap.size < w2.heap.size := (by omega))
      | (go_at_call 218; ((with_reducible refine (HS.out _).mono ?_); rintro e w1 ⟨rfl, rfl⟩))
      | (go_at_call 221; ((with_reducible refine (HG.out _).mono ?_); rintro e w1 ⟨rfl, rfl⟩))
      | (go_at_call 224; ((with_reducible refine (HD.out _).mono ?_); rintro e w1 ⟨rfl, rfl⟩)))
     have hB : Below w.heap.size w w2 := (below_alloc w _).trans (hb.mono (by simp))
     have k0 := (hb_below (hb_new w (.cells #[.int .i64 0, .string ⟨#[]⟩, .int .i64 0, .int .i64 0] 159)) hb (by simp))
     have r0 := hb_at k0 0 rfl
     have r1 := hb_at k0 1 rfl
     have r2 := hb_at k0 2 rfl
     have r3 := hb_at k0 3 rfl
     exact bodyPost_ret (v := .tuple #[.agg #[.int .i64 tk, .string ts, .int .i64 tn, .int .i64 0], .int .i64 (m : Nat)]) Q45 rfl ⟨rfl, (((hB.setCell (by simp) _).setCell (by simp) _).setCell (by simp) _).setCell (by simp) _⟩
   rw [hd] at HD
   by_cases h45 : s[0].toNat = 45
   · have e45 : ((s[0].toNat : Int) == (((⟨#[45]⟩ : ByteArray)[0]'(by show 0 < 1; omega)).toNat : Int)) = true := by rw [h45]; rfl
     rcases (Bool.eq_false_or_eq_true (Lib.hasPrefix s.data.toList [45, 62])) with hp | hp
     · rw [if_neg (by rw [hd, hp]; simp)]
       have h2 : 2 ≤ s.size := by
        have h3 := len_list s
        unfold Lib.hasPrefix at hp
        cases e : s.data.toList with
        | nil => rw [e] at hp; simp at hp
        | cons a l =>
         cases l with
         | nil => rw [e] at hp; simp at hp
         | cons b l => rw [e] at h3; simp at h3; omega
       have hsg : s[0].toNat = 45 → 2 ≤ s.size := fun _ => h2
       have HP := Hd hp
       clear hs far hg h39s h95 h39 h34 hd hp h45
       have HX0 : ∀ W, EscW W → Calls Tryz.prog 226 #[.string s] W fun e w' => e = .returned (.tuple #[(signT s s[0].toNat).1.v 0, .int .i64 (signT s s[0].toNat).2]) ∧ Below W.heap.size W w' := fun W hW => firstSign_any s hm hz hsg W
       generalize signT s s[0].toNat = T at HX0 ⊢
       obtain ⟨⟨tk, ts, tn⟩, m⟩ := T
       have HX : RowKit.Hid (∀ W, EscW W → Calls Tryz.prog 226 #[.string s] W fun e w' => e = .returned (.tuple #[.agg #[.int .i64 tk, .string ts, .int .i64 tn, .int .i64 0], .int .i64 (m : Nat)]) ∧ Below W.heap.size W w') := Hd HX0
       clear HX0
       go_enter Tryz.func172, Tryz.ntmps172
       go_wp2_with (first
        | (go_at_call 226; refine (HX.out _ (HE.out.alloc _)).mono ?_; rintro e w2 ⟨rfl, hb⟩; obtain ⟨hc, hf⟩ := bcellX hb; have z2 := hb.size; rw [World.size_alloc] at z2; have y2 : w.heap.size < w2.heap.size := (by omega))
        | (go_at_call 218; ((with_reducible refine (HS.out _).mono ?_); rintro e w1 ⟨rfl, rfl⟩))
        | (go_at_call 221; ((with_reducible refine (HG.out _).mono ?_); rintro e w1 ⟨rfl, rfl⟩))
        | (go_at_call 224; ((with_reducible refine (HD.out _).mono ?_); rintro e w1 ⟨rfl, rfl⟩))
        | (go_at_call 216; refine (Tryz.strings_HasPrefix s ⟨#[45, 62]⟩ _).mono ?_; rintro e w1 ⟨rfl, rfl⟩; rw [HP.out]))
       have hB : Below w.heap.size w w2 := (below_alloc w _).trans (hb.mono (by simp))
       have k0 := (hb_below (hb_new w (.cells #[.int .i64 0, .string ⟨#[]⟩, .int .i64 0, .int .i64 0] 159)) hb (by simp))
       have r0 := hb_at k0 0 rfl
       have r1 := hb_at k0 1 rfl
       have r2 := hb_at k0 2 rfl
       have r3 := hb_at k0 3 rfl
       exact bodyPost_ret (v := .tuple #[.agg #[.int .i64 tk, .string ts, .int .i64 tn, .int .i64 0], .int .i64 (m : Nat)]) Q45 rfl ⟨rfl, (((hB.setCell (by simp) _).setCell (by simp) _).setCell (by simp) _).setCell (by simp) _⟩
     · rw [if_pos (by rw [hd, hp, h45]; rfl)]
       have HP := Hd hp
       clear hs far hg h39s h95 h39 h34 hd hp h45
       have HX0 : ∀ W, EscW W → Calls Tryz.prog 225 #[.string s] W fun e w' => e = .returned (.tuple #[(numT s).1.v 0, .int .i64 (numT s).2]) ∧ Below W.heap.size W w' := fun W hW => firstNumber_any s hm W
       generalize numT s = T at HX0 ⊢
       obtain ⟨⟨tk, ts, tn⟩, m⟩ := T
       have HX : RowKit.Hid (∀ W, EscW W → Calls Tryz.prog 225 #[.string s] W fun e w' => e = .returned (.tuple #[.agg #[.int .i64 tk, .string ts, .int .i64 tn, .int .i64 0], .int .i64 (m : Nat)]) ∧ Below W.heap.size W w') := Hd HX0
       clear HX0
       go_enter Tryz.func172, Tryz.ntmps172
       go_wp2_with (first
        | (go_at_call 225; refine (HX.out _ (HE.out.alloc _)).mono ?_; rintro e w2 ⟨rfl, hb⟩; obtain ⟨hc, hf⟩ := bcellX hb; have z2 := hb.size; rw [World.size_alloc] at z2; have y2 : w.heap.size < w2.heap.size := (by omega))
        | (go_at_call 218; ((with_reducible refine (HS.out _).mono ?_); rintro e w1 ⟨rfl, rfl⟩))
        | (go_at_call 221; ((with_reducible refine (HG.out _).mono ?_); rintro e w1 ⟨rfl, rfl⟩))
        | (go_at_call 224; ((with_reducible refine (HD.out _).mono ?_); rintro e w1 ⟨rfl, rfl⟩))
        | (go_at_call 216; refine (Tryz.strings_HasPrefix s ⟨#[45, 62]⟩ _).mono ?_; rintro e w1 ⟨rfl, rfl⟩; rw [HP.out]))
       have hB : Below w.heap.size w w2 := (below_alloc w _).trans (hb.mono (by simp))
       have k0 := (hb_below (hb_new w (.cells #[.int .i64 0, .string ⟨#[]⟩, .int .i64 0, .int .i64 0] 159)) hb (by simp))
       have r0 := hb_at k0 0 rfl
       have r1 := hb_at k0 1 rfl
       have r2 := hb_at k0 2 rfl
       have r3 := hb_at k0 3 rfl
       exact bodyPost_ret (v := .tuple #[.agg #[.int .i64 tk, .string ts, .int .i64 tn, .int .i64 0], .int .i64 (m : Nat)]) Q45 rfl ⟨rfl, (((hB.setCell (by simp) _).setCell (by simp) _).setCell (by simp) _).setCell (by simp) _⟩
   · have e45 : ((s[0].toNat : Int) == (((⟨#[45]⟩ : ByteArray)[0]'(by show 0 < 1; omega)).toNat : Int)) = false := by rw [beq_eq_false_iff_ne]; intro e; exact h45 (by have e1 : (s[0].toNat : Int) = 45 := e; omega)
     rw [if_neg (by rw [hd]; simp [h45])]
     have hsg : s[0].toNat = 45 → 2 ≤ s.size := fun h => absurd h h45
     clear hs far hg h39s h95 h39 h34 hd h45
     have HX0 : ∀ W, EscW W → Calls Tryz.prog 226 #[.string s] W fun e w' => e = .returned (.tuple #[(signT s s[0].toNat).1.v 0, .int .i64 (signT s s[0].toNat).2]) ∧ Below W.heap.size W w' := fun W hW => firstSign_any s hm hz hsg W
     generalize signT s s[0].toNat = T at HX0 ⊢
     obtain ⟨⟨tk, ts, tn⟩, m⟩ := T
     have HX : RowKit.Hid (∀ W, EscW W → Calls Tryz.prog 226 #[.string s] W fun e w' => e = .returned (.tuple #[.agg #[.int .i64 tk, .string ts, .int .i64 tn, .int .i64 0], .int .i64 (m : Nat)]) ∧ Below W.heap.size W w') := Hd HX0
     clear HX0
     go_enter Tryz.func172, Tryz.ntmps172
     go_wp2_with (first
      | (go_at_call 226; refine (HX.out _ (HE.out.alloc _)).mono ?_; rintro e w2 ⟨rfl, hb⟩; obtain ⟨hc, hf⟩ := bcellX hb; have z2 := hb.size; rw [World.size_alloc] at z2; have y2 : w.heap.size < w2.heap.size := (by omega))
      | (go_at_call 218; ((with_reducible refine (HS.out _).mono ?_); rintro e w1 ⟨rfl, rfl⟩))
      | (go_at_call 221; ((with_reducible refine (HG.out _).mono ?_); rintro e w1 ⟨rfl, rfl⟩))
      | (go_at_call 224; ((with_reducible refine (HD.out _).mono ?_); rintro e w1 ⟨rfl, rfl⟩)))
     have hB : Below w.heap.size w w2 := (below_alloc w _).trans (hb.mono (by simp))
     have k0 := (hb_below (hb_new w (.cells #[.int .i64 0, .string ⟨#[]⟩, .int .i64 0, .int .i64 0] 159)) hb (by simp))
     have r0 := hb_at k0 0 rfl
     have r1 := hb_at k0 1 rfl
     have r2 := hb_at k0 2 rfl
     have r3 := hb_at k0 3 rfl
     exact bodyPost_ret (v := .tuple #[.agg #[.int .i64 tk, .string ts, .int .i64 tn, .int .i64 0], .int .i64 (m : Nat)]) Q45 rfl ⟨rfl, (((hB.setCell (by simp) _).setCell (by simp) _).setCell (by simp) _).setCell (by simp) _⟩
 · have hs0 : s = ⟨#[]⟩ := by
    apply ByteArray.ext
    apply Array.eq_empty_of_size_eq_zero
    have h : s.data.size = s.size := rfl
    omega
   subst hs0
   go_enter Tryz.func172, Tryz.ntmps172
   go_wp2
   have hB := below_alloc w (.cells #[.int .i64 0, .string ⟨#[]⟩, .int .i64 0, .int .i64 0] 159)
   have k0 := hb_new w (.cells #[.int .i64 0, .string ⟨#[]⟩, .int .i64 0, .int .i64 0] 159)
   have r0 := hb_at k0 0 rfl
   have r1 := hb_at k0 1 rfl
   have r2 := hb_at k0 2 rfl
   have r3 := hb_at k0 3 rfl
   exact bodyPost_ret (v := .tuple #[tk0.v 0, .int .i64 0]) (by simp [results, Tryz.results172, go_sem, r0, r1, r2, r3, tk0, Tk.v]) rfl ⟨rfl, by first | exact hB | exact (((hB.setCell (by simp) _).setCell (by simp) _).setCell (by simp) _).setCell (by simp) _⟩
theorem nameT_le (k : Int) (s : ByteArray) : (nameT k s).2 ≤ s.size := by
 have h := cnt_le nmB s.data.toList
 rw [len_list] at h
 unfold nameT
 split
 · exact Nat.zero_le _
 · exact h
theorem varT_le (s : ByteArray) : (varT s).2 ≤ s.size := by
 have h1 := cnt_le vrB (s.data.toList.drop 1)
 rw [List.length_drop, len_list] at h1
 have h1 := cnt_le vrB (s.data.toList.drop 1)
 rw [List.length_drop, len_list] at h1
 unfold varT
 by_cases h : cnt vrB (s.data.toList.drop 1) = 0 ∨ 29 < cnt vrB (s.data.toList.drop 1) ∨ headS s.data.toList[1]? = false
 · rw [if_pos h]
   exact Nat.zero_le _
 · rw [if_neg h]
   show 1 + cnt vrB (s.data.toList.drop 1) ≤ s.size
   omega
theorem txF_le (L : List UInt8) : ∀ (f i : Nat) (said r : List UInt8) (n : Nat), txF L f i said = some (r, n) → n ≤ L.length := by
 intro f
 induction f with
 | zero => intro i said r n h; cases h
 | succ f ih =>
  intro i said r n h
  unfold txF at h
  split at h
  · cases h
  · cases hc : L[i]? with
    | none => rw [hc] at h; cases h
    | some c =>
     have hi := (List.getElem?_eq_some_iff.1 hc).1
     rw [hc] at h
     simp only [] at h
     split at h
     · cases h; omega
     · split at h
       · cases h
       · split at h
         · cases hd : L[i + 1]? with
           | none => rw [hd] at h; cases h
           | some d =>
            rw [hd] at h
            simp only [] at h
            split at h
            · exact ih _ _ _ _ h
            · cases h
         · exact ih _ _ _ _ h
theorem textT_le (s : ByteArray) : (textT s).2 ≤ s.size := by
 unfold textT
 cases h : txM s.data.toList 1 [] with
 | none => exact Nat.zero_le _
 | some x =>
  have := txF_le _ _ _ _ x.1 x.2 h
  rw [len_list] at this
  exact this
theorem numT_le (s : ByteArray) : (numT s).2 ≤ s.size := by
 unfold numT
 split
 · exact verM_le s
 · split
   · exact Nat.zero_le _
   · have := intM_le s.data.toList
     rw [len_list] at this
     exact this
theorem firstT_le (s : ByteArray) : (firstT s).2 ≤ s.size := by
 unfold firstT
 cases hc : s.data.toList[0]? with
 | none => exact Nat.zero_le _
 | some c =>
  have hi := (List.getElem?_eq_some_iff.1 hc).1
  rw [len_list] at hi
  simp only []
  split
  · exact nameT_le _ _
  · split
    · exact nameT_le _ _
    · split
      · exact varT_le _
      · split
        · exact textT_le _
        · split
          · exact numT_le _
          · rename_i h
            unfold signT
            split
            · rename_i h45
              have hp : Lib.hasPrefix s.data.toList [45, 62] = true := by
               cases hp : Lib.hasPrefix s.data.toList [45, 62]
               · exact absurd (by rw [hp, h45]; simp) h
               · rfl
              have h3 := len_list s
              unfold Lib.hasPrefix at hp
              show 2 ≤ s.size
              cases e : s.data.toList with
              | nil => rw [e] at hp; simp at hp
              | cons a l =>
               cases l with
               | nil => rw [e] at hp; simp at hp
               | cons b l => rw [e] at h3; simp at h3; omega
            · split
              · exact hi
              · exact Nat.zero_le _
def cellsT (l : List (Tk × Nat)) : List Value := l.flatMap fun x => [.int .i64 x.1.k, .string x.1.s, .int .i64 x.1.n, .int .i64 (x.2 : Nat)]
theorem cellsT_snoc (l : List (Tk × Nat)) (x : Tk × Nat) : cellsT (l ++ [x]) = cellsT l ++ [.int .i64 x.1.k, .string x.1.s, .int .i64 x.1.n, .int .i64 (x.2 : Nat)] := by
 unfold cellsT
 rw [List.flatMap_append]
 simp
def lxF (s : ByteArray) : Nat → Nat → List (Tk × Nat) → List (Tk × Nat) × Nat × Nat
 | 0, _, _ => ([], 0, 0)
 | f + 1, i, acc =>
  if s.size ≤ i then (acc, 0, 0)
  else if (firstT (s.extract i s.size)).2 = 0 then ([], i, 10)
  else if acc.length = 6000 then ([], i, 9)
  else lxF s f (i + (firstT (s.extract i s.size)).2 + skM (s.data.toList.drop (i + (firstT (s.extract i s.size)).2))) (acc ++ [((firstT (s.extract i s.size)).1, i)])
theorem lxF_any (s : ByteArray) : ∀ (f g i : Nat) (acc : List (Tk × Nat)), s.size - i < f → s.size - i < g → lxF s f i acc = lxF s g i acc := by
 intro f
 induction f with
 | zero => intro g i acc h; omega
 | succ f ih =>
  intro g i acc h1 h2
  cases g with
  | zero => omega
  | succ g =>
   unfold lxF
   split
   · rfl
   · split
     · rfl
     · split
       · rfl
       · exact ih g _ _ (by omega) (by omega)
def lxM (s : ByteArray) (i : Nat) (acc : List (Tk × Nat)) : List (Tk × Nat) × Nat × Nat := lxF s (s.size + 1) i acc
theorem lxM_step (s : ByteArray) (i : Nat) (acc : List (Tk × Nat)) : lxM s i acc =
 if s.size ≤ i then (acc, 0, 0)
 else if (firstT (s.extract i s.size)).2 = 0 then ([], i, 10)
 else if acc.length = 6000 then ([], i, 9)
 else lxM s (i + (firstT (s.extract i s.size)).2 + skM (s.data.toList.drop (i + (firstT (s.extract i s.size)).2))) (acc ++ [((firstT (s.extract i s.size)).1, i)]) := by
 unfold lxM
 rw [lxF]
 split
 · rfl
 · split
   · rfl
   · split
     · rfl
     · exact lxF_any s _ _ _ _ (by omega) (by omega)
def lexM (s : ByteArray) : List (Tk × Nat) × Nat × Nat := if 20000 < s.size then ([], 0, 9) else lxM s (skM s.data.toList) []
def TkRow (B : Nat) (w : World) (v : Value) (l : List (Tk × Nat)) : Prop := w.ownsRow B 159 4 v l.length (cellsT l)
theorem TkRow.below {B : Nat} {w w' : World} {v : Value} {l : List (Tk × Nat)} (h : TkRow B w v l) (hb : Below w.heap.size w w') : TkRow B w' v l := by
 have hg : w.grownBy w' none := ⟨hb.os, hb.tape, hb.output, hb.size, fun k hk _ => hb.block k hk⟩
 exact World.ownsRow.kept h hg (by cases e : v.ownBlock <;> simp)
theorem TkRow.shape {B : Nat} {w : World} {v : Value} {l : List (Tk × Nat)} (h : TkRow B w v l) : ∃ ao cap, v = .slice ao l.length cap := by
 rcases h.2 with ⟨hv, h0⟩ | ⟨g, cap, cur, hv, _⟩
 · exact ⟨none, 0, by rw [hv, h0]⟩
 · exact ⟨_, _, hv⟩
theorem info34 : ∃ z, (Tryz.prog.info? 159).map (fun i => (i.zero, i.size, i.bytes)) = some (some z, 4, 40) ∧ z.cells.size = 4 := ⟨.agg #[.int .i64 0, .string ⟨#[]⟩, .int .i64 0, .int .i64 0], by kernel_rfl, rfl⟩
def LexR (s : ByteArray) (w : World) (e : Ending) (w' : World) : Prop :=
 ∃ v, e = .returned (.tuple #[v, .int .i64 ((lexM s).2.1 : Nat), .int .i64 ((lexM s).2.2 : Nat)]) ∧ TkRow w.heap.size w' v (lexM s).1 ∧ Below w.heap.size w w'
theorem TkRow.none (B : Nat) (w : World) : TkRow B w (.slice none 0 0) [] := World.ownsRow_nil w B 159 4
abbrev ofL (l : List UInt8) : ByteArray := ⟨l.toArray⟩
theorem ofL_list (l : List UInt8) : (ofL l).data.toList = l := rfl
theorem ofL_back (s : ByteArray) : ofL s.data.toList = s := by simp [ofL]
theorem ofL_size (l : List UInt8) : (ofL l).size = l.length := by rw [← len_list]
theorem ofL_take (l : List UInt8) (k : Nat) : (ofL l).extract 0 k = ofL (l.take k) := by
 apply toList_injX
 rw [take_list, ByteArray.toList_eq]
theorem ofL_drop (s : ByteArray) (k : Nat) : s.extract k s.size = ofL (s.data.toList.drop k) := by
 apply toList_injX
 rw [ByteArray.toList_eq, sfx_list, ByteArray.toList_eq]
theorem cnt_take (p : UInt8 → Bool) : ∀ (l : List UInt8) (k : Nat), cnt p (l.take k) = min k (cnt p l) := by
 intro l
 induction l with
 | nil => intro k; simp [cnt]
 | cons c l ih =>
  intro k
  cases k with
  | zero => simp [cnt]
  | succ k =>
   have h := ih k
   unfold cnt at h ⊢
   rw [List.take_succ_cons, List.takeWhile_cons, List.takeWhile_cons]
   split
   · rw [List.length_cons, List.length_cons, h]; omega
   · simp
theorem cnt_app (p : UInt8 → Bool) (y : List UInt8) (hy : ∀ c, y.head? = some c → p c = false) : ∀ x : List UInt8, cnt p (x ++ y) = cnt p x := by
 intro x
 induction x with
 | nil =>
  cases y with
  | nil => rfl
  | cons c r => unfold cnt; rw [List.nil_append, List.takeWhile_cons, hy c rfl]; simp
 | cons c x ih =>
  unfold cnt at ih ⊢
  rw [List.cons_append, List.takeWhile_cons, List.takeWhile_cons]
  split
  · rw [List.length_cons, List.length_cons, ih]
  · rfl
theorem take_take_le {α : Type} (l : List α) {n k : Nat} (h : n ≤ k) : (l.take k).take n = l.take n := by
 rw [List.take_take, Nat.min_eq_left h]
theorem nameT_ofL (kind : Int) (l : List UInt8) : nameT kind (ofL l) = if 30 < cnt nmB l then (tk0, 0)
 else (⟨if keyB (ofL (l.take (cnt nmB l))) then 7 else kind, ofL (l.take (cnt nmB l)), 0⟩, cnt nmB l) := by
 unfold nameT
 rw [ofL_list, ofL_take]
theorem nameT_pre {kind : Int} {l : List UInt8} {t : Tk} {n k : Nat} (h : nameT kind (ofL l) = (t, n)) (h0 : 0 < n) (hk : n ≤ k) : nameT kind (ofL (l.take k)) = (t, n) := by
 rw [nameT_ofL] at h ⊢
 by_cases h30 : 30 < cnt nmB l
 · rw [if_pos h30] at h; cases h; omega
 · rw [if_neg h30] at h
   have hn : cnt nmB l = n := congrArg Prod.snd h
   rw [cnt_take, Nat.min_eq_right (by omega), if_neg h30, take_take_le _ (by omega)]
   exact h
theorem verF_eq {s : ByteArray} : ∀ (N n : Nat), n ≤ N → (0 < n → Sv.okS (s.extract 0 n) = true) → (∀ m, n < m → m ≤ N → Sv.okS (s.extract 0 m) = false) → verF s N = n := by
 intro N
 induction N with
 | zero => intro n h _ _; unfold verF; omega
 | succ N ih =>
  intro n h1 h2 h3
  unfold verF
  by_cases e : n = N + 1
  · subst e; rw [if_pos (h2 (by omega))]
  · rw [h3 (N + 1) (by omega) (Nat.le_refl _)]
    simp only [Bool.false_eq_true, if_false]
    exact ih n (by omega) h2 fun m a b => h3 m a (by omega)
theorem verF_gt {s : ByteArray} : ∀ (N m : Nat), verF s N < m → m ≤ N → Sv.okS (s.extract 0 m) = false := by
 intro N
 induction N with
 | zero => intro m h1 h2; unfold verF at h1; omega
 | succ N ih =>
  intro m h1 h2
  unfold verF at h1
  split at h1
  · omega
  · rename_i hno
    by_cases e : m = N + 1
    · subst e; simpa using hno
    · exact ih m h1 (by omega)
theorem verM_pre {l : List UInt8} {n k : Nat} (h : verM (ofL l) = n) (hk : n ≤ k) : verM (ofL (l.take k)) = n := by
 have h' := h
 unfold verM at h ⊢
 have hle := verF_le (ofL l) (min (ofL l).size 20)
 rw [h] at hle
 rw [ofL_size] at hle ⊢
 rw [ofL_size] at h
 apply verF_eq
 · rw [List.length_take]; omega
 · intro h0
   rw [ofL_take, take_take_le _ hk, ← ofL_take]
   have := verF_ok (ofL l) (min l.length 20) (by omega)
   rw [h] at this
   exact this
 · intro m h1 h2
   rw [List.length_take] at h2
   rw [ofL_take, take_take_le _ (by omega), ← ofL_take]
   exact verF_gt (min l.length 20) m (by omega) (by omega)
theorem index_cases' (l : List UInt8) (c : UInt8) : Lib.indexByte l c = -1 ∨ ∃ i : Nat, Lib.indexByte l c = i := by
 by_cases h : Lib.indexByte l c = -1
 · exact .inl h
 · have := Lib.indexByte_ge l c
   exact .inr ⟨(Lib.indexByte l c).toNat, by omega⟩
theorem ver_m {s : ByteArray} (h : Sv.m s = true) : s.data.toList = (Sv.t s).data.toList ++ 46 :: (Sv.r s).data.toList := by
 rcases index_cases' s.data.toList 46 with hi | ⟨j, hi⟩
 · have : Sv.m s = false := by unfold Sv.m Sv.cutS; rw [if_pos hi]
   rw [this] at h; cases h
 · have hc : Sv.cutS s 46 = (s.extract 0 j, s.extract (j + 1) s.size, true) := by
    unfold Sv.cutS
    rw [if_neg (by omega), hi]
    rfl
   have h1 := (Lib.indexByte_some hi).1
   unfold Sv.t Sv.r
   rw [hc]
   show s.data.toList = (s.extract 0 j).data.toList ++ 46 :: (s.extract (j + 1) s.size).data.toList
   rw [sfx_list, ← ByteArray.toList_eq (s.extract 0 j), take_list]
   have hl : j < s.data.toList.length := (List.getElem?_eq_some_iff.1 h1).1
   have e : s.data.toList[j] = 46 := (List.getElem?_eq_some_iff.1 h1).2
   rw [← e, ← List.drop_eq_getElem_cons hl, List.take_append_drop]
theorem ver_no {s : ByteArray} (h : Sv.m s = false) : Sv.t s = s := by
 rcases index_cases' s.data.toList 46 with hi | ⟨j, hi⟩
 · unfold Sv.t Sv.cutS; rw [if_pos hi]
 · have : Sv.m s = true := by unfold Sv.m Sv.cutS; rw [if_neg (by omega)]
   rw [this] at h; cases h
theorem ver_nb {s : ByteArray} (h : Sv.nb s = true) : Sv.NumP (Sv.t s).data.toList := of_decide_eq_true h
theorem okS_bytes {s : ByteArray} (h : Sv.okS s = true) : (∀ c ∈ s.data.toList, Sv.isDig c = true ∨ c = 46) ∧ (∀ c, s.data.toList.head? = some c → Sv.isDig c = true) := by
 unfold Sv.okS at h
 simp only [Bool.and_eq_true, Bool.not_eq_true'] at h
 obtain ⟨⟨⟨⟨⟨h1, h2⟩, h3⟩, h4⟩, h5⟩, h6⟩ := h
 have e1 := ver_m h2
 have e2 := ver_m h4
 have e3 := ver_no h6
 have n1 := ver_nb h1
 have n2 := ver_nb h3
 have n3 := ver_nb h5
 rw [e3] at n3
 rw [e2] at e1
 rw [e1]
 refine ⟨fun c hc => ?_, fun c hc => ?_⟩
 · simp only [List.mem_append, List.mem_cons] at hc
   rcases hc with hc | hc | hc | hc | hc
   · exact .inl (n1.2.2.1 c hc)
   · exact .inr hc
   · exact .inl (n2.2.2.1 c hc)
   · exact .inr hc
   · exact .inl (n3.2.2.1 c hc)
 · have hne := n1.1
   cases e : (Sv.t s).data.toList with
   | nil => exact absurd e hne
   | cons d r =>
    rw [e] at hc n1
    simp at hc
    subst hc
    exact n1.2.2.1 d (List.mem_cons_self ..)
theorem hp1 (l : List UInt8) (c : UInt8) : Lib.hasPrefix l [c] = (l.head? == some c) := by
 unfold Lib.hasPrefix
 cases l with
 | nil => rfl
 | cons d r =>
  simp only [List.isPrefixOf, Bool.and_true, List.head?_cons]
  rw [Bool.eq_iff_iff]
  simp only [beq_iff_eq, Option.some.injEq]
  exact ⟨fun h => h.symm, fun h => h.symm⟩
theorem hp2 (l : List UInt8) (a b : UInt8) : Lib.hasPrefix l [a, b] = (l.take 2 == [a, b]) := by
 unfold Lib.hasPrefix
 match l with
 | [] => rfl
 | [d] => simp [List.isPrefixOf]
 | d :: e :: r =>
  simp only [List.isPrefixOf, Bool.and_true]
  rw [Bool.eq_iff_iff]
  simp only [List.take, Bool.and_eq_true, beq_iff_eq, List.cons.injEq, and_true]
  exact ⟨fun h => ⟨h.1.symm, h.2.symm⟩, fun h => ⟨h.1.symm, h.2.symm⟩⟩
theorem head_take {l : List UInt8} {k : Nat} (h : 0 < k) : (l.take k).head? = l.head? := by
 rw [List.head?_take, if_neg (by omega)]
theorem zh_take {l : List UInt8} {k : Nat} (h : 0 < k) : zhB (l.take k) = zhB l := by unfold zhB; rw [head_take h]
theorem intN_take {l : List UInt8} {k : Nat} (h0 : 0 < k) (h : intN l ≤ k) : intN (l.take k) = intN l := by
 unfold intN at h ⊢
 rw [zh_take h0]
 split
 · rfl
 · rename_i hz
   rw [if_neg hz] at h
   rw [cnt_take]; omega
theorem hp45 {l : List UInt8} (h : Lib.hasPrefix l [45] = true) : l ≠ [] := by
 intro e; subst e; cases h
theorem int_take {l : List UInt8} {k : Nat} (h : intM l ≠ 0) (hk : intM l ≤ k) : intM (l.take k) = intM l ∧ intV (l.take k) = intV l := by
 have hp' : Lib.hasPrefix (l.take k) [45] = Lib.hasPrefix l [45] := by rw [hp1, hp1, head_take (by omega)]
 have hd : (l.take k).drop 1 = (l.drop 1).take (k - 1) := List.drop_take
 cases hp : Lib.hasPrefix l [45]
 · obtain ⟨e1, e2, e3⟩ := intM_plain hp h
   have hN := intN_take (l := l) (k := k) (by omega) (by omega)
   have hD : intD (l.take k) = intD l := by unfold intD; rw [hN, take_take_le _ (by omega)]
   unfold intM intV
   rw [hp', hp, hN, hD]
   exact ⟨rfl, rfl⟩
 · obtain ⟨e1, e0, e2, e3⟩ := intM_neg hp h
   have hN := intN_take (l := l.drop 1) (k := k - 1) (by omega) (by omega)
   have hD : intD ((l.drop 1).take (k - 1)) = intD (l.drop 1) := by unfold intD; rw [hN, take_take_le _ (by omega)]
   unfold intM intV
   rw [hp', hp, hd, hN, hD, zh_take (by omega)]
   exact ⟨rfl, rfl⟩
theorem numT_ofL (l : List UInt8) : numT (ofL l) = if 0 < verM (ofL l) then (⟨6, ofL (l.take (verM (ofL l))), 0⟩, verM (ofL l))
 else if intM l = 0 then (tk0, 0) else (⟨4, ⟨#[]⟩, intV l⟩, intM l) := by
 unfold numT
 rw [ofL_take]
theorem numT_pre {l : List UInt8} {t : Tk} {n k : Nat} (h : numT (ofL l) = (t, n)) (h0 : 0 < n) (hk : n ≤ k) : numT (ofL (l.take k)) = (t, n) := by
 rw [numT_ofL] at h ⊢
 by_cases hv : 0 < verM (ofL l)
 · rw [if_pos hv] at h
   have hn : verM (ofL l) = n := congrArg Prod.snd h
   rw [verM_pre hn hk, if_pos h0, take_take_le _ hk]
   rw [hn] at h
   exact h
 · rw [if_neg hv] at h
   rw [verM_pre (n := 0) (by omega) (by omega), if_neg (by omega)]
   by_cases hi : intM l = 0
   · rw [if_pos hi] at h; cases h; omega
   · rw [if_neg hi] at h
     have hn : intM l = n := congrArg Prod.snd h
     obtain ⟨e1, e2⟩ := int_take hi (k := k) (by omega)
     rw [e1, e2, if_neg hi]
     exact h
theorem varT_ofL (l : List UInt8) : varT (ofL l) = if cnt vrB (l.drop 1) = 0 ∨ 29 < cnt vrB (l.drop 1) ∨ headS l[1]? = false then (tk0, 0)
 else (⟨3, ofL ((l.drop 1).take (cnt vrB (l.drop 1))), 0⟩, 1 + cnt vrB (l.drop 1)) := rfl
theorem varT_pre {l : List UInt8} {t : Tk} {n k : Nat} (h : varT (ofL l) = (t, n)) (h0 : 0 < n) (hk : n ≤ k) : varT (ofL (l.take k)) = (t, n) := by
 rw [varT_ofL] at h ⊢
 by_cases hc : cnt vrB (l.drop 1) = 0 ∨ 29 < cnt vrB (l.drop 1) ∨ headS l[1]? = false
 · rw [if_pos hc] at h; cases h; omega
 · rw [if_neg hc] at h
   have hn : 1 + cnt vrB (l.drop 1) = n := congrArg Prod.snd h
   have hd : (l.take k).drop 1 = (l.drop 1).take (k - 1) := List.drop_take
   have h1 : (l.take k)[1]? = l[1]? := by rw [List.getElem?_take, if_pos (by omega)]
   rw [hd, cnt_take, Nat.min_eq_right (by omega), h1, if_neg hc, take_take_le _ (by omega)]
   exact h
theorem txF_more (L : List UInt8) : ∀ (f g i : Nat) (said : List UInt8) (r : List UInt8 × Nat), txF L f i said = some r → f ≤ g → txF L g i said = some r := by
 intro f
 induction f with
 | zero => intro g i said r h; cases h
 | succ f ih =>
  intro g i said r h hg
  cases g with
  | zero => omega
  | succ g =>
   unfold txF at h ⊢
   split at h
   · cases h
   · rename_i h1
     rw [if_neg h1]
     cases hc : L[i]? with
     | none => rw [hc] at h; cases h
     | some c =>
      rw [hc] at h
      simp only [] at h ⊢
      split at h
      · rename_i h2; rw [if_pos h2]; exact h
      · rename_i h2
        rw [if_neg h2]
        split at h
        · cases h
        · rename_i h3
          rw [if_neg h3]
          split at h
          · rename_i h4
            rw [if_pos h4]
            cases hd : L[i + 1]? with
            | none => rw [hd] at h; cases h
            | some d =>
             rw [hd] at h
             simp only [] at h ⊢
             split at h
             · rename_i h5; rw [if_pos h5]; exact ih _ _ _ _ h (by omega)
             · cases h
          · rename_i h4
            rw [if_neg h4]
            exact ih _ _ _ _ h (by omega)
theorem txF_gt (L : List UInt8) : ∀ (f i : Nat) (said r : List UInt8) (n : Nat), txF L f i said = some (r, n) → i < n := by
 intro f
 induction f with
 | zero => intro i said r n h; cases h
 | succ f ih =>
  intro i said r n h
  unfold txF at h
  split at h
  · cases h
  · cases hc : L[i]? with
    | none => rw [hc] at h; cases h
    | some c =>
     rw [hc] at h
     simp only [] at h
     split at h
     · cases h; omega
     · split at h
       · cases h
       · split at h
         · cases hd : L[i + 1]? with
           | none => rw [hd] at h; cases h
           | some d =>
            rw [hd] at h
            simp only [] at h
            split at h
            · have := ih _ _ _ _ h; omega
            · cases h
         · have := ih _ _ _ _ h; omega
theorem txF_agree (L M : List UInt8) : ∀ (f i : Nat) (said r : List UInt8) (n : Nat), txF L f i said = some (r, n) → (∀ j, j < n → M[j]? = L[j]?) → txF M f i said = some (r, n) := by
 intro f
 induction f with
 | zero => intro i said r n h; cases h
 | succ f ih =>
  intro i said r n h hM
  have hgt := txF_gt L _ _ _ _ _ h
  unfold txF at h ⊢
  rw [hM i hgt]
  split at h
  · cases h
  · rename_i h1
    rw [if_neg h1]
    cases hc : L[i]? with
    | none => rw [hc] at h; cases h
    | some c =>
     rw [hc] at h
     simp only [] at h ⊢
     split at h
     · rename_i h2; rw [if_pos h2]; exact h
     · rename_i h2
       rw [if_neg h2]
       split at h
       · cases h
       · rename_i h3
         rw [if_neg h3]
         split at h
         · rename_i h4
           rw [if_pos h4]
           cases hd : L[i + 1]? with
           | none => rw [hd] at h; cases h
           | some d =>
            rw [hd] at h
            simp only [] at h
            split at h
            · rename_i h5
              have hg2 := txF_gt L _ _ _ _ _ h
              rw [hM (i + 1) (by omega), hd]
              simp only []
              rw [if_pos h5]
              exact ih _ _ _ _ h hM
            · cases h
         · rename_i h4
           rw [if_neg h4]
           exact ih _ _ _ _ h hM
theorem txM_agree {L M : List UInt8} {r : List UInt8} {n : Nat} (h : txM L 1 [] = some (r, n)) (hM : ∀ j, j < n → M[j]? = L[j]?) : txM M 1 [] = some (r, n) := by
 unfold txM at h ⊢
 have h1 := txF_agree L M _ _ _ _ _ h hM
 have h2 := txF_more M _ (max (L.length + 1) (M.length + 1)) _ _ _ h1 (by omega)
 rw [← h2]
 exact txF_any M _ _ _ _ (by omega) (by omega)
theorem textT_some {l : List UInt8} {t : Tk} {n : Nat} (h : textT (ofL l) = (t, n)) (h0 : 0 < n) : ∃ r, txM l 1 [] = some (r, n) ∧ t = ⟨5, ofL r, 0⟩ := by
 unfold textT at h
 rw [ofL_list] at h
 cases e : txM l 1 [] with
 | none => rw [e] at h; cases h; omega
 | some x =>
  obtain ⟨r, m⟩ := x
  rw [e] at h
  cases h
  exact ⟨r, rfl, rfl⟩
theorem textT_agree {l m : List UInt8} {t : Tk} {n : Nat} (h : textT (ofL l) = (t, n)) (h0 : 0 < n) (hM : ∀ j, j < n → m[j]? = l[j]?) : textT (ofL m) = (t, n) := by
 obtain ⟨r, h1, rfl⟩ := textT_some h h0
 have h2 := txM_agree h1 hM
 unfold textT
 rw [ofL_list, h2]
 rfl
theorem firstT_at {l : List UInt8} {c : UInt8} (h : l[0]? = some c) : firstT (ofL l) =
 if (smB c || (decide (c.toNat = 95) && decide (1 < cnt nmB l))) = true then nameT 1 (ofL l)
 else if grB c = true then nameT 2 (ofL l)
 else if c.toNat = 39 then varT (ofL l)
 else if c.toNat = 34 then textT (ofL l)
 else if (dgB c || (decide (c.toNat = 45) && !Lib.hasPrefix l [45, 62])) = true then numT (ofL l)
 else signT (ofL l) c.toNat := by
 unfold firstT
 rw [ofL_list, h]
theorem signT_ofL (l : List UInt8) (c : Nat) : signT (ofL l) c = if c = 45 then (⟨8, ofL (l.take 2), 0⟩, 2) else if sgB c then (⟨8, ofL (l.take 1), 0⟩, 1) else (tk0, 0) := by
 unfold signT
 rw [ofL_take, ofL_take]
theorem firstT_none {l : List UInt8} (h : l[0]? = none) : firstT (ofL l) = (tk0, 0) := by
 unfold firstT
 rw [ofL_list, h]
theorem firstT_pre {l : List UInt8} {t : Tk} {n k : Nat} (h : firstT (ofL l) = (t, n)) (h0 : 0 < n) (hk : n ≤ k) : firstT (ofL (l.take k)) = (t, n) := by
 cases hc : l[0]? with
 | none => rw [firstT_none hc] at h; cases h; omega
 | some c =>
  have hc' : (l.take k)[0]? = some c := by rw [List.getElem?_take, if_pos (by omega), hc]
  rw [firstT_at hc] at h
  rw [firstT_at hc', cnt_take]
  by_cases h1 : (smB c || (decide (c.toNat = 95) && decide (1 < cnt nmB l))) = true
  · rw [if_pos h1] at h
    have h2 := nameT_pre h h0 hk
    rw [if_pos]
    · exact h2
    · have h3 := h
      rw [nameT_ofL] at h3
      by_cases h30 : 30 < cnt nmB l
      · rw [if_pos h30] at h3; cases h3; omega
      · rw [if_neg h30] at h3
        have hn : cnt nmB l = n := congrArg Prod.snd h3
        rw [Nat.min_eq_right (by omega)]
        exact h1
  · rw [if_neg h1] at h
    rw [if_neg]
    · by_cases h2 : grB c = true
      · rw [if_pos h2] at h ⊢
        exact nameT_pre h h0 hk
      · rw [if_neg h2] at h ⊢
        by_cases h3 : c.toNat = 39
        · rw [if_pos h3] at h ⊢
          exact varT_pre h h0 hk
        · rw [if_neg h3] at h ⊢
          by_cases h4 : c.toNat = 34
          · rw [if_pos h4] at h ⊢
            exact textT_agree h h0 fun j hj => by rw [List.getElem?_take, if_pos (by omega)]
          · rw [if_neg h4] at h ⊢
            by_cases h5 : (dgB c || (decide (c.toNat = 45) && !Lib.hasPrefix l [45, 62])) = true
            · rw [if_pos h5] at h
              rw [if_pos]
              · exact numT_pre h h0 hk
              · simp only [Bool.or_eq_true, Bool.and_eq_true, decide_eq_true_eq, Bool.not_eq_true'] at h5 ⊢
                rcases h5 with h5 | ⟨h5, h6⟩
                · exact .inl h5
                · refine .inr ⟨h5, ?_⟩
                  rw [hp2] at h6 ⊢
                  rw [beq_eq_false_iff_ne] at h6 ⊢
                  intro e
                  apply h6
                  rw [← e, List.take_take]
                  have hk2 : 2 ≤ k := by
                   have := congrArg List.length e
                   simp at this
                   omega
                  rw [Nat.min_eq_left hk2]
            · rw [if_neg h5] at h
              rw [signT_ofL] at h
              by_cases h6 : c.toNat = 45
              · rw [if_pos h6] at h
                have hn : 2 = n := congrArg Prod.snd h
                rw [if_neg, signT_ofL, if_pos h6, take_take_le _ (by omega)]
                · exact h
                · rw [hp2, take_take_le _ (by omega), ← hp2]
                  exact h5
              · rw [if_neg h6] at h
                rw [if_neg, signT_ofL, if_neg h6, take_take_le _ (by omega)]
                · exact h
                · intro h7
                  apply h5
                  simp only [Bool.or_eq_true, Bool.and_eq_true, decide_eq_true_eq, Bool.not_eq_true'] at h7 ⊢
                  rcases h7 with h7 | ⟨h7, _⟩
                  · exact .inl h7
                  · exact absurd h7 h6
    · intro h2
      apply h1
      simp only [Bool.or_eq_true, Bool.and_eq_true, decide_eq_true_eq] at h2 ⊢
      rcases h2 with h2 | ⟨h2, h3⟩
      · exact .inl h2
      · exact .inr ⟨h2, by omega⟩
def apart (c : UInt8) : Prop := nmB c = false ∧ vrB c = false ∧ dgB c = false ∧ Sv.isDig c = false ∧ c ≠ 46
namespace Sv
theorem foldl_le (l : List UInt8) : ∀ a, a * 10 ^ l.length ≤ l.foldl (fun n c => 10 * n + (c.toNat - 48)) a := by
 induction l with
 | nil => intro a; simp
 | cons c l ih =>
  intro a
  have h1 := ih (10 * a + (c.toNat - 48))
  have h3 : (a * 10) * 10 ^ l.length ≤ (10 * a + (c.toNat - 48)) * 10 ^ l.length := Nat.mul_le_mul_right _ (by omega)
  rw [List.length_cons, Nat.pow_succ, Nat.mul_comm (10 ^ l.length) 10, ← Nat.mul_assoc]
  exact Nat.le_trans h3 h1
theorem dd_step (m : Nat) : Lib.decDigits m = (if m / 10 = 0 then [] else Lib.decDigits (m / 10)) ++ [UInt8.ofNat (48 + m % 10)] := by
 by_cases h : m < 10
 · have h0 : m / 10 = 0 := by omega
   have h1 : m % 10 = m := by omega
   rw [Lib.decDigits_one h, if_pos h0, h1]; rfl
 · have h0 : ¬ m / 10 = 0 := by omega
   rw [Lib.decDigits, dif_neg h, if_neg h0]
theorem dd_len : ∀ (k m : Nat), m < 10 ^ (k + 1) → (Lib.decDigits m).length ≤ k + 1 := by
 intro k
 induction k with
 | zero => intro m h; rw [Lib.decDigits_one (by simpa using h)]; simp
 | succ k ih =>
  intro m h
  rw [dd_step, List.length_append, List.length_singleton]
  have h2 : m / 10 < 10 ^ (k + 1) := by rw [Nat.pow_succ] at h; omega
  split
  · simp
  · have := ih _ h2; omega
theorem back_dig {b : UInt8} (h : isDig b = true) : UInt8.ofNat (48 + (b.toNat - 48)) = b := by
 have := isDig_yes h
 have e : 48 + (b.toNat - 48) = b.toNat := by omega
 rw [e, UInt8.ofNat_toNat]
theorem val_pos {L : List UInt8} (hd : ∀ c ∈ L, isDig c = true) (hn : L ≠ []) (h48 : L.head? ≠ some 48) : 1 ≤ val L := by
 cases L with
 | nil => exact absurd rfl hn
 | cons x l =>
  have hx := isDig_yes (hd x (by simp))
  have hne : x.toNat ≠ 48 := fun e => h48 (by simp only [List.head?_cons]; congr 1; exact UInt8.toNat_inj.1 e)
  have h5 := foldl_le l (10 * 0 + (x.toNat - 48))
  have h6 : val (x :: l) = l.foldl (fun n c => 10 * n + (c.toNat - 48)) (10 * 0 + (x.toNat - 48)) := rfl
  have h7 : 1 ≤ 10 ^ l.length := Nat.pow_pos (by decide)
  have h8 : 1 * 10 ^ l.length ≤ (10 * 0 + (x.toNat - 48)) * 10 ^ l.length := Nat.mul_le_mul_right _ (by omega)
  omega
theorem head_snoc {L : List UInt8} {b : UInt8} (h : L ≠ []) : (L ++ [b]).head? = L.head? := by
 cases L with
 | nil => exact absurd rfl h
 | cons x l => rfl
theorem dd_val : ∀ (n : Nat) (T : List UInt8), T.length = n → T ≠ [] → ¬ (T.head? = some 48 ∧ 1 < T.length) → (∀ c ∈ T, isDig c = true) → Lib.decDigits (val T) = T := by
 intro n
 induction n with
 | zero => intro T h h1; exact absurd (List.length_eq_zero_iff.1 h) h1
 | succ n ih =>
  intro T hl hne hh hd
  rcases List.eq_nil_or_concat T with h | ⟨L, b, h⟩
  · exact absurd h hne
  · rw [List.concat_eq_append] at h
    subst h
    have hb := isDig_yes (hd b (by simp))
    rw [val_snoc]
    by_cases hL : L = []
    · subst hL
      have e : 10 * val [] + (b.toNat - 48) = b.toNat - 48 := by rw [val_nil]; omega
      rw [e, Lib.decDigits_one (by omega), back_dig (hd b (by simp))]
      rfl
    · have hL48 : L.head? ≠ some 48 := fun h => hh ⟨by rw [head_snoc hL]; exact h, by
       have := List.length_pos_iff.2 hL
       simp; omega⟩
      have hdl : ∀ c ∈ L, isDig c = true := fun c hc => hd c (List.mem_append_left _ hc)
      have hv := val_pos hdl hL hL48
      have hi := ih L (by simpa using hl) hL (fun h => hL48 h.1) hdl
      rw [dd_step]
      have e1 : (10 * val L + (b.toNat - 48)) / 10 = val L := by omega
      have e2 : (10 * val L + (b.toNat - 48)) % 10 = b.toNat - 48 := by omega
      rw [e1, e2, if_neg (by omega), hi, back_dig (hd b (by simp))]
end Sv
def escE (c : UInt8) : List UInt8 := if c.toNat = 92 then [92, 92] else if c.toNat = 34 then [92, 34] else if c.toNat = 10 then [92, 110] else if c.toNat = 9 then [92, 116] else [c]
def telL (l : List UInt8) : List UInt8 := 34 :: (l.flatMap escE ++ [34])
def tellT (t : Tk) : List UInt8 := if t.k = 3 then 39 :: t.s.data.toList else if t.k = 4 then Lib.itoa t.n else if t.k = 5 then telL t.s.data.toList else t.s.data.toList
theorem u8 {c : UInt8} {n : Nat} (h : c.toNat = n) (hn : n < 256) : c = UInt8.ofNat n := by
 apply UInt8.toNat_inj.1
 rw [h, UInt8.toNat_ofNat', Nat.mod_eq_of_lt hn]
theorem escE_back {d : UInt8} (h : (escV d.toNat).2 = true) : escE (UInt8.ofNat (escV d.toNat).1) = [92, d] := by
 unfold escV at h ⊢
 by_cases h1 : d.toNat = 92
 · rw [if_pos h1, u8 h1 (by decide)]; decide
 · rw [if_neg h1] at h ⊢
   by_cases h2 : d.toNat = 34
   · rw [if_pos h2, u8 h2 (by decide)]; decide
   · rw [if_neg h2] at h ⊢
     by_cases h3 : d.toNat = 110
     · rw [if_pos h3, u8 h3 (by decide)]; decide
     · rw [if_neg h3] at h ⊢
       by_cases h4 : d.toNat = 116
       · rw [if_pos h4, u8 h4 (by decide)]; decide
       · rw [if_neg h4] at h; cases h
theorem take_one {L : List UInt8} {i : Nat} {c : UInt8} (h : L[i]? = some c) : L.take (i + 1) = L.take i ++ [c] := by
 rw [List.take_add_one, h]; rfl
theorem txF_told (L : List UInt8) : ∀ (f i : Nat) (said r : List UInt8) (n : Nat), txF L f i said = some (r, n) → ∃ d, r = said ++ d ∧ L.take i ++ (d.flatMap escE ++ [34]) = L.take n := by
 intro f
 induction f with
 | zero => intro i said r n h; cases h
 | succ f ih =>
  intro i said r n h
  unfold txF at h
  split at h
  · cases h
  · cases hc : L[i]? with
    | none => rw [hc] at h; cases h
    | some c =>
     rw [hc] at h
     simp only [] at h
     split at h
     · rename_i h1
       cases h
       refine ⟨[], by simp, ?_⟩
       rw [take_one hc, u8 h1 (by decide)]
       rfl
     · rename_i h1
       split at h
       · cases h
       · rename_i h2
         split at h
         · rename_i h3
           cases hd : L[i + 1]? with
           | none => rw [hd] at h; cases h
           | some d =>
            rw [hd] at h
            simp only [] at h
            split at h
            · rename_i h4
              obtain ⟨e, he1, he2⟩ := ih _ _ _ _ h
              refine ⟨UInt8.ofNat (escV d.toNat).1 :: e, by rw [he1]; simp, ?_⟩
              rw [← he2, take_one hd, take_one hc, List.flatMap_cons, escE_back h4, u8 h3 (by decide)]
              simp
            · cases h
         · rename_i h3
           obtain ⟨e, he1, he2⟩ := ih _ _ _ _ h
           refine ⟨c :: e, by rw [he1]; simp, ?_⟩
           have hE : escE c = [c] := by
            unfold escE
            rw [if_neg h3, if_neg h1, if_neg (by omega), if_neg (by omega)]
           rw [← he2, take_one hc, List.flatMap_cons, hE]
           simp
theorem dg_is (c : UInt8) : dgB c = Sv.isDig c := by
 unfold dgB Sv.isDig
 rw [← Bool.decide_and]
theorem dec_val : ∀ (l : List UInt8) (acc : Nat), (∀ b ∈ l, dgB b = true) → Lib.decFrom acc l = some (l.foldl (fun n c => 10 * n + (c.toNat - 48)) acc) := by
 intro l
 induction l with
 | nil => intro acc _; rfl
 | cons c l ih =>
  intro acc h
  rw [Lib.decFrom, dg_val (h c (List.mem_cons_self ..))]
  show Lib.decFrom (acc * 10 + (c.toNat - 48)) l = _
  rw [ih _ fun b hb => h b (List.mem_cons_of_mem _ hb), Nat.mul_comm acc 10]
  rfl
theorem intD_val {l : List UInt8} (h1 : intN l ≠ 0) : Lib.decNat (intD l) = some (Sv.val (intD l)) := by
 have hl := intD_len l
 unfold Lib.decNat
 rw [if_neg (by cases e : intD l with | nil => rw [e] at hl; simp at hl; omega | cons a b => simp), dec_val _ _ (intD_all l)]
 rfl
theorem intD_back {l : List UInt8} (h1 : intN l ≠ 0) : Lib.decDigits (Sv.val (intD l)) = intD l := by
 have hl := intD_len l
 apply Sv.dd_val _ _ rfl
 · intro e; rw [e, List.length_nil] at hl; omega
 · rintro ⟨h2, h3⟩
   rw [hl] at h3
   have hz : zhB l = true := by
    unfold zhB
    unfold intD at h2
    rw [head_take (by omega)] at h2
    rw [h2]; rfl
   unfold intN at h3
   rw [if_pos hz] at h3
   omega
 · intro c hc
   rw [← dg_is]
   exact intD_all l c hc
theorem int_told {l : List UInt8} (h : intM l ≠ 0) : Lib.itoa (intV l) = l.take (intM l) := by
 cases hp : Lib.hasPrefix l [45]
 · obtain ⟨e1, e2, e3⟩ := intM_plain hp h
   have hV : intV l = (Sv.val (intD l) : Nat) := by unfold intV; rw [hp, intD_val e2]; rfl
   rw [hV, Lib.itoa_nonneg, intD_back e2, e1]
   rfl
 · obtain ⟨e1, e0, e2, e3⟩ := intM_neg hp h
   have hV : intV l = -(Sv.val (intD (l.drop 1)) : Nat) := by unfold intV; rw [hp, intD_val e2]; rfl
   have hpos : 1 ≤ Sv.val (intD (l.drop 1)) := by
    apply Sv.val_pos
    · intro c hc
      rw [← dg_is]
      exact intD_all _ c hc
    · intro e
      have hl := intD_len (l.drop 1)
      rw [e, List.length_nil] at hl; omega
    · intro e
      unfold intD at e
      rw [head_take (by omega)] at e
      unfold zhB at e0
      rw [e] at e0
      cases e0
   rw [hV, Lib.itoa_neg _ hpos, intD_back e2, e1]
   conv => rhs; rw [pre_cons hp, Nat.add_comm 1, List.take_succ_cons]
   rfl
theorem nameT_told {kind : Int} {l : List UInt8} {t : Tk} {n : Nat} (hk : kind = 1 ∨ kind = 2) (h : nameT kind (ofL l) = (t, n)) (h0 : 0 < n) : tellT t = l.take n := by
 rw [nameT_ofL] at h
 by_cases h30 : 30 < cnt nmB l
 · rw [if_pos h30] at h; cases h; omega
 · rw [if_neg h30] at h
   cases h
   unfold tellT
   show (if (if keyB (ofL (l.take (cnt nmB l))) = true then (7 : Int) else kind) = 3 then _ else _) = _
   have h3 : ∀ b : Bool, (if b = true then (7 : Int) else kind) ≠ 3 ∧ (if b = true then (7 : Int) else kind) ≠ 4 ∧ (if b = true then (7 : Int) else kind) ≠ 5 := by
    intro b
    cases b <;> simp <;> omega
   rw [if_neg (h3 _).1, if_neg (h3 _).2.1, if_neg (h3 _).2.2]
theorem told_any {l : List UInt8} {t : Tk} {n : Nat} (h : firstT (ofL l) = (t, n)) (h0 : 0 < n) : tellT t = l.take n := by
 cases hc : l[0]? with
 | none => rw [firstT_none hc] at h; cases h; omega
 | some c =>
  rw [firstT_at hc] at h
  split at h
  · exact nameT_told (.inl rfl) h h0
  · split at h
    · exact nameT_told (.inr rfl) h h0
    · split at h
      · rename_i h39
        rw [varT_ofL] at h
        split at h
        · cases h; omega
        · cases h
          show 39 :: (l.drop 1).take (cnt vrB (l.drop 1)) = l.take (1 + cnt vrB (l.drop 1))
          cases l with
          | nil => cases hc
          | cons d r =>
           have : d = c := by simpa using hc
           subst this
           rw [Nat.add_comm 1, List.take_succ_cons, u8 h39 (by decide)]
           rfl
      · split at h
        · rename_i h34
          obtain ⟨r, hr, rfl⟩ := textT_some h h0
          obtain ⟨d, hd1, hd2⟩ := txF_told l _ _ _ _ _ hr
          rw [List.nil_append] at hd1
          subst hd1
          show telL r = l.take n
          rw [← hd2, take_one hc, u8 h34 (by decide)]
          rfl
        · split at h
          · rw [numT_ofL] at h
            split at h
            · cases h; rfl
            · split at h
              · cases h; omega
              · rename_i hi
                cases h
                exact int_told hi
          · rw [signT_ofL] at h
            split at h
            · cases h; rfl
            · split at h
              · cases h; rfl
              · cases h; omega
end Go.Proofs.YtmkjalnlldpdcaaGreatDoor
