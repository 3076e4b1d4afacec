/- Texts in a row: Lu Pv Pw Vs. -/
import Derived.Test.YtmkjalnlldpdcaaGreatDoorZT8
import Derived.Test.YtmkjalnlldpdcaaGreatDoorZT26
import Derived.Test.YtmkjalnlldpdcaaGreatDoorZT11
import Derived.Test.YtmkjalnlldpdcaaGreatDoorZT22
import Derived.Test.YtmkjalnlldpdcaaGreatDoorZT16
import Derived.Test.YtmkjalnlldpdcaaGreatDoorZT12
import Derived.Deep.DeepCutAuto
set_option maxHeartbeats 16000000
set_option maxRecDepth 100000
namespace Go.Proofs.YtmkjalnlldpdcaaGreatDoor
open Go.RowKit
set_option linter.unusedSimpArgs false
set_option linter.unusedVariables false
theorem isBlank_any (c : UInt8) (w : World) : Calls Tryz.prog 215 #[.int .u8 (c.toNat : Nat)] w fun e w' => e = .returned (.bool (blB c)) ∧ w = w' := by
 have hp : blB c = (decide (c.toNat = 32) || decide (c.toNat = 9) || decide (c.toNat = 10)) := rfl
 rw [hp]
 clear hp
 generalize c.toNat = n at *
 by_cases h1 : n = 32
 · subst h1
   go_enter Tryz.func215, Tryz.ntmps215
   go_wp2
   go_ret
   exact ⟨rfl, rfl⟩
 have d1 : ((n : Int) == 32) = false := by rw [beq_eq_false_iff_ne]; omega
 have e1 : decide (n = 32) = false := by simpa using h1
 rw [e1, Bool.false_or]
 clear e1 h1
 by_cases h2 : n = 9
 · subst h2
   go_enter Tryz.func215, Tryz.ntmps215
   go_wp2
   go_ret
   exact ⟨rfl, rfl⟩
 have d2 : ((n : Int) == 9) = false := by rw [beq_eq_false_iff_ne]; omega
 have e2 : decide (n = 9) = false := by simpa using h2
 rw [e2, Bool.false_or]
 clear e2 h2
 by_cases h3 : n = 10
 · subst h3
   go_enter Tryz.func215, Tryz.ntmps215
   go_wp2
   go_ret
   exact ⟨rfl, rfl⟩
 have d3 : ((n : Int) == 10) = false := by rw [beq_eq_false_iff_ne]; omega
 have e3 : decide (n = 10) = false := by simpa using h3
 rw [e3]
 clear e3 h3
 go_enter Tryz.func215, Tryz.ntmps215
 go_wp2
 go_ret
 exact ⟨rfl, rfl⟩
theorem notNl_any (c : UInt8) (w : World) : Calls Tryz.prog 217 #[.int .u8 (c.toNat : Nat)] w fun e w' => e = .returned (.bool (notNl c)) ∧ w = w' := by
 have hp : notNl c = !decide (c.toNat = 10) := rfl
 rw [hp]
 clear hp
 generalize c.toNat = n at *
 by_cases h1 : n = 10
 · subst h1
   go_enter Tryz.func217, Tryz.ntmps217
   go_wp2
   go_ret
   exact ⟨rfl, rfl⟩
 have d1 : ((n : Int) != 10) = true := by simp; omega
 have e1 : decide (n = 10) = false := by simpa using h1
 rw [e1]
 clear e1 h1
 go_enter Tryz.func217, Tryz.ntmps217
 go_wp2
 go_ret
 exact ⟨rfl, rfl⟩
theorem countBlank (s : ByteArray) (hm : s.size ≤ 4194304) (w : World) : Calls Tryz.prog 214 #[.string s, .func (.func 215) #[] #[]] w fun e w' => e = .returned (.int .i64 (cnt blB s.data.toList : Nat)) ∧ w = w' := by
 go_enter Tryz.func214, Tryz.ntmps214
 go_wp2
 go_loop [5] (fun i => ∃ k : Nat, k ≤ s.size ∧ i = .int .i64 k ∧ ∀ i c, i < k → s.data.toList[i]? = some c → blB c = true) (fun i => s.size - (intOf i).toNat)
 case atStart => exact ⟨0, Nat.zero_le _, rfl, fun i c h => absurd h (by omega)⟩
 case round =>
  obtain ⟨k, hk, rfl, hp⟩ := hrel
  have HP := Hd hp
  clear hp
  by_cases hlt : k < s.size
  · have HX := Hd (at_list s k hlt)
    have hki : (k : Int) < (s.size : Int) := by omega
    have HC := Hd (fun w => isBlank_any s[k] w)
    cases hb : blB s[k]
    · have HB := Hd hb
      clear hb
      go_wp2_with (go_at_call 215; refine (HC.out _).mono ?_; rintro e w' ⟨rfl, rfl⟩; rw [HB.out])
      go_ret
      exact ⟨ret_int Q33, rfl⟩
    · have HB := Hd hb
      clear hb
      go_wp2_with (go_at_call 215; refine (HC.out _).mono ?_; rintro e w' ⟨rfl, rfl⟩; rw [HB.out])
      go_round
      case rel =>
       refine ⟨k + 1, by omega, by go_num, fun i c hi hc => ?_⟩
       by_cases h : i < k
       · exact HP.out i c h hc
       · obtain rfl : i = k := by omega
         rw [HX.out] at hc
         cases hc
         exact HB.out
      case measure => simp [intOf]; omega
  · have hki : ¬ (k : Int) < (s.size : Int) := by omega
    obtain rfl : k = s.size := by omega
    go_wp2
    go_ret
    exact ⟨ret_int Q30, rfl⟩
theorem countRem (s : ByteArray) (hm : s.size ≤ 4194304) (w : World) : Calls Tryz.prog 214 #[.string s, .func (.func 217) #[] #[]] w fun e w' => e = .returned (.int .i64 (cnt notNl s.data.toList : Nat)) ∧ w = w' := by
 go_enter Tryz.func214, Tryz.ntmps214
 go_wp2
 go_loop [5] (fun i => ∃ k : Nat, k ≤ s.size ∧ i = .int .i64 k ∧ ∀ i c, i < k → s.data.toList[i]? = some c → notNl c = true) (fun i => s.size - (intOf i).toNat)
 case atStart => exact ⟨0, Nat.zero_le _, rfl, fun i c h => absurd h (by omega)⟩
 case round =>
  obtain ⟨k, hk, rfl, hp⟩ := hrel
  have HP := Hd hp
  clear hp
  by_cases hlt : k < s.size
  · have HX := Hd (at_list s k hlt)
    have hki : (k : Int) < (s.size : Int) := by omega
    have HC := Hd (fun w => notNl_any s[k] w)
    cases hb : notNl s[k]
    · have HB := Hd hb
      clear hb
      go_wp2_with (go_at_call 217; refine (HC.out _).mono ?_; rintro e w' ⟨rfl, rfl⟩; rw [HB.out])
      go_ret
      exact ⟨ret_int Q33, rfl⟩
    · have HB := Hd hb
      clear hb
      go_wp2_with (go_at_call 217; refine (HC.out _).mono ?_; rintro e w' ⟨rfl, rfl⟩; rw [HB.out])
      go_round
      case rel =>
       refine ⟨k + 1, by omega, by go_num, fun i c hi hc => ?_⟩
       by_cases h : i < k
       · exact HP.out i c h hc
       · obtain rfl : i = k := by omega
         rw [HX.out] at hc
         cases hc
         exact HB.out
      case measure => simp [intOf]; omega
  · have hki : ¬ (k : Int) < (s.size : Int) := by omega
    obtain rfl : k = s.size := by omega
    go_wp2
    go_ret
    exact ⟨ret_int Q30, rfl⟩
theorem lexSkip_any (s : ByteArray) (hm : s.size ≤ 4194304) (k : Nat) (hk : k ≤ s.size) (w : World) :
 Calls Tryz.prog 171 #[.string s, .int .i64 (k : Nat)] w fun e w' => e = .returned (.int .i64 (k + skM (s.data.toList.drop k) : Nat)) ∧ w = w' := by
 go_enter Tryz.func171, Tryz.ntmps171
 go_wp2
 go_loop [1] (fun i => ∃ j : Nat, j ≤ s.size ∧ i = .int .i64 j ∧ j + skM (s.data.toList.drop j) = k + skM (s.data.toList.drop k)) (fun i => s.size - (intOf i).toNat)
 case atStart => exact ⟨k, hk, rfl, rfl⟩
 case round =>
  obtain ⟨j, hj, rfl, hp⟩ := hrel
  have HP := Hd hp
  clear hp
  have hji : (j : Int) ≤ (s.size : Int) := by omega
  have HC := Hd (fun w => countBlank (s.extract j s.size) (by rw [sfx_size]; omega) w)
  have HD := Hd (fun w => countRem (s.extract j s.size) (by rw [sfx_size]; omega) w)
  have HL := Hd (sfx_list s j)
  cases hb : Lib.hasPrefix (s.data.toList.drop j) [45, 45]
  · have hsn : sn (s.data.toList.drop j) = cnt blB (s.data.toList.drop j) := by unfold sn; rw [hb]; rfl
    have hle := sn_le (s.data.toList.drop j)
    rw [List.length_drop, len_list] at hle
    obtain ⟨N, hN⟩ : ∃ N, cnt blB (s.data.toList.drop j) = N := ⟨_, rfl⟩
    have HZ : N = 0 → skM (s.data.toList.drop j) = 0 := fun h => skM_zero (by rw [hsn, hN, h])
    have HY : N ≠ 0 → skM (s.data.toList.drop j) = N + skM (s.data.toList.drop (j + N)) := fun h => by
     have := skM_step (l := s.data.toList.drop j) (by rw [hsn, hN]; exact h)
     rw [hsn, hN, List.drop_drop] at this
     exact this
    rw [hsn, hN] at hle
    have HB := Hd hb
    have HN := Hd hN
    clear hN hsn hb
    by_cases hz : N = 0
    · have H0 := Hd (HZ hz)
      clear HZ HY
      subst hz
      go_wp2_with (first
       | (go_at_call 214; refine (HC.out _).mono ?_; rintro e w' ⟨rfl, rfl⟩; rw [HL.out, HN.out])
       | (go_at_call 216; refine (Tryz.strings_HasPrefix (s.extract j s.size) _ _).mono ?_; rintro e w' ⟨rfl, rfl⟩; rw [HL.out, HB.out]))
      go_ret
      have h0 := H0.out
      have h1 := HP.out
      rw [h0] at h1
      exact ⟨ret_int (by omega), rfl⟩
    · have H0 := Hd (HY hz)
      clear HZ HY
      have hni : ((N : Int) == 0) = false := by rw [beq_eq_false_iff_ne]; omega
      go_wp2_with (first
       | (go_at_call 214; refine (HC.out _).mono ?_; rintro e w' ⟨rfl, rfl⟩; rw [HL.out, HN.out])
       | (go_at_call 216; refine (Tryz.strings_HasPrefix (s.extract j s.size) _ _).mono ?_; rintro e w' ⟨rfl, rfl⟩; rw [HL.out, HB.out]))
      go_round
      case rel =>
       refine ⟨j + N, by omega, by go_num, ?_⟩
       have h0 := H0.out
       have h1 := HP.out
       rw [h0] at h1
       omega
      case measure => simp [intOf]; omega
  · have hsn : sn (s.data.toList.drop j) = cnt notNl (s.data.toList.drop j) := by unfold sn; rw [hb]; rfl
    have hle := sn_le (s.data.toList.drop j)
    rw [List.length_drop, len_list] at hle
    obtain ⟨N, hN⟩ : ∃ N, cnt notNl (s.data.toList.drop j) = N := ⟨_, rfl⟩
    have HZ : N = 0 → skM (s.data.toList.drop j) = 0 := fun h => skM_zero (by rw [hsn, hN, h])
    have HY : N ≠ 0 → skM (s.data.toList.drop j) = N + skM (s.data.toList.drop (j + N)) := fun h => by
     have := skM_step (l := s.data.toList.drop j) (by rw [hsn, hN]; exact h)
     rw [hsn, hN, List.drop_drop] at this
     exact this
    rw [hsn, hN] at hle
    have HB := Hd hb
    have HN := Hd hN
    clear hN hsn hb
    by_cases hz : N = 0
    · have H0 := Hd (HZ hz)
      clear HZ HY
      subst hz
      go_wp2_with (first
       | (go_at_call 214; with_reducible refine (HC.out _).mono ?_; rintro e w' ⟨rfl, rfl⟩; rw [HL.out]; generalize cnt blB (List.drop j s.data.toList) = M)
       | (go_at_call 214; with_reducible refine (HD.out _).mono ?_; rintro e w' ⟨rfl, rfl⟩; rw [HL.out, HN.out])
       | (go_at_call 216; refine (Tryz.strings_HasPrefix (s.extract j s.size) _ _).mono ?_; rintro e w' ⟨rfl, rfl⟩; rw [HL.out, HB.out]))
      go_ret
      have h0 := H0.out
      have h1 := HP.out
      rw [h0] at h1
      exact ⟨ret_int (by omega), rfl⟩
    · have H0 := Hd (HY hz)
      clear HZ HY
      have hni : ((N : Int) == 0) = false := by rw [beq_eq_false_iff_ne]; omega
      go_wp2_with (first
       | (go_at_call 214; with_reducible refine (HC.out _).mono ?_; rintro e w' ⟨rfl, rfl⟩; rw [HL.out]; generalize cnt blB (List.drop j s.data.toList) = M)
       | (go_at_call 214; with_reducible refine (HD.out _).mono ?_; rintro e w' ⟨rfl, rfl⟩; rw [HL.out, HN.out])
       | (go_at_call 216; refine (Tryz.strings_HasPrefix (s.extract j s.size) _ _).mono ?_; rintro e w' ⟨rfl, rfl⟩; rw [HL.out, HB.out]))
      go_round
      case rel =>
       refine ⟨j + N, by omega, by go_num, ?_⟩
       have h0 := H0.out
       have h1 := HP.out
       rw [h0] at h1
       omega
      case measure => simp [intOf]; omega
theorem lex_any (s : ByteArray) (hm : s.size ≤ 4194304) (w : World) (hw : EscW w) : Calls Tryz.prog 121 #[.string s] w (LexR s w) := by
 have hpos : 0 < w.heap.size := hw.pos
 have HE := Hd hw
 clear hw
 by_cases hbig : 20000 < s.size
 · have db : decide ((20000 : Int) < (s.size : Int)) = true := by simp; omega
   have hR : lexM s = ([], 0, 9) := by unfold lexM; rw [if_pos hbig]
   unfold LexR
   rw [hR]
   go_enter Tryz.func121, Tryz.ntmps121
   go_wp2
   exact bodyPost_ret (v := .tuple #[.slice none 0 0, .int .i64 0, .int .i64 9]) (by simp [results, Tryz.results121, go_sem]) rfl ⟨_, rfl, TkRow.none _ _, Below.refl _ _⟩
 have db : decide ((20000 : Int) < (s.size : Int)) = false := by simp; omega
 obtain ⟨R, hR⟩ : ∃ R, lxM s (skM s.data.toList) [] = R := ⟨_, rfl⟩
 have hL : lexM s = R := by unfold lexM; rw [if_neg hbig, hR]
 unfold LexR
 rw [hL]
 clear hL
 have hsk0 := skM_le _ s.data.toList rfl
 rw [len_list] at hsk0
 have HK0 := Hd (fun W => lexSkip_any s hm 0 (Nat.zero_le _) W)
 rw [List.drop_zero, Nat.zero_add] at HK0
 obtain ⟨z, hz, hzc⟩ := info34
 obtain ⟨i0, hi, hz0, hz1, hz2⟩ := info_parts hz
 have HI := Hd hi
 have HZ0 := Hd hz0
 have HZ1 := Hd hz1
 have HZ2 := Hd hz2
 have HZC := Hd hzc
 clear hi hz0 hz1 hz2 hzc hz
 go_enter Tryz.func121, Tryz.ntmps121
 go_wp2_with (go_at_call 171; refine (HK0.out _).mono ?_; rintro e w1 ⟨rfl, rfl⟩)
 go_loopw [5, 6] (fun v i wr => ∃ (k : Nat) (acc : List (Tk × Nat)), i = .int .i64 k ∧ k ≤ s.size ∧ lxM s k acc = R ∧ acc.length ≤ 6000 ∧ Below w.heap.size w wr ∧ TkRow w.heap.size wr v acc) (fun _ i _ => s.size - (intOf i).toNat)
 case atStart => exact ⟨_, [], rfl, hsk0, hR, by simp, Below.refl _ _, TkRow.none _ _⟩
 case round =>
   obtain ⟨k, acc, rfl, hk, hT, hacc, hb, hrow⟩ := hrel
   have hbs := hb.size
   have HB := Hd hb
   have HROW := Hd hrow
   have HS := Hd (lxM_step s k acc)
   rw [hT] at HS
   obtain ⟨ao, cap, rfl⟩ := hrow.shape
   clear hb hrow hT
   by_cases hlt : k < s.size
   · have hki : (k : Int) < (s.size : Int) := by omega
     have hle := firstT_le (s.extract k s.size)
     rw [sfx_size] at hle
     have HF := Hd (fun W hW => first_any (s.extract k s.size) (by rw [sfx_size]; omega) W hW)
     have hQ : R = (if (firstT (s.extract k s.size)).2 = 0 then ([], k, 10)
      else if acc.length = 6000 then ([], k, 9)
      else lxM s (k + (firstT (s.extract k s.size)).2 + skM (s.data.toList.drop (k + (firstT (s.extract k s.size)).2))) (acc ++ [((firstT (s.extract k s.size)).1, k)])) := by
      rw [HS.out, if_neg (by omega)]
     clear HS
     generalize firstT (s.extract k s.size) = T at *
     obtain ⟨⟨tk, ts, tn⟩, m⟩ := T
     have HF2 : RowKit.Hid (∀ W, EscW W → Calls Tryz.prog 172 #[.string (s.extract k s.size)] W fun e w' => e = .returned (.tuple #[.agg #[.int .i64 tk, .string ts, .int .i64 tn, .int .i64 0], .int .i64 (m : Nat)]) ∧ Below W.heap.size W w') := HF
     clear HF
     have HEW : RowKit.Hid (EscW wr) := Hd (HE.out.below HB.out hpos)
     simp only [] at hQ hle
     by_cases hm0 : m = 0
     · rw [if_pos hm0] at hQ
       subst hm0
       subst hQ
       go_wp2_with (go_at_call 172; refine (HF2.out _ HEW.out).mono ?_; rintro e w1 ⟨rfl, hb1⟩; have HB1 := Hd hb1; have HZ3 := hb1.size; clear hb1)
       have hB1 := HB.out.trans (HB1.out.mono HB.out.size)
       exact bodyPost_ret (v := .tuple #[.slice none 0 0, .int .i64 (k : Nat), .int .i64 10]) (by simp [results, Tryz.results121, go_sem]) rfl ⟨_, rfl, TkRow.none _ _, hB1.alloc hB1.size _⟩
     · rw [if_neg hm0] at hQ
       have nm0 : ((m : Int) == 0) = false := by rw [beq_eq_false_iff_ne]; omega
       by_cases h6 : acc.length = 6000
       · rw [if_pos h6] at hQ
         have e6 : ((acc.length : Int) == 6000) = true := by rw [h6]; rfl
         subst hQ
         go_wp2_with (go_at_call 172; refine (HF2.out _ HEW.out).mono ?_; rintro e w1 ⟨rfl, hb1⟩; have HB1 := Hd hb1; have HZ3 := hb1.size; clear hb1)
         have hB1 := HB.out.trans (HB1.out.mono HB.out.size)
         exact bodyPost_ret (v := .tuple #[.slice none 0 0, .int .i64 (k : Nat), .int .i64 9]) (by simp [results, Tryz.results121, go_sem]) rfl ⟨_, rfl, TkRow.none _ _, hB1.alloc hB1.size _⟩
       · rw [if_neg h6] at hQ
         have e6 : ((acc.length : Int) == 6000) = false := by rw [beq_eq_false_iff_ne]; omega
         have HKN := Hd (fun W => lexSkip_any s hm (k + m) (by omega) W)
         have hskn := skM_le _ (s.data.toList.drop (k + m)) rfl
         rw [List.length_drop, len_list] at hskn
         generalize skM (s.data.toList.drop (k + m)) = S at *
         have HQ := Hd hQ
         clear hQ
         go_wp2_with (first
          | (go_at_call 172; refine (HF2.out _ HEW.out).mono ?_; rintro e w1 ⟨rfl, hb1⟩; have HB1 := Hd hb1; have HR1 := Hd (HROW.out.below hb1); have HZ3 := hb1.size; clear hb1)
          | (go_at_call 171; refine (HKN.out _).mono ?_; rintro e w5 ⟨rfl, rfl⟩)
          | (at_builtin; refine (fun h : True → _ => h trivial) ?_))
         intro _
         refine wpList_append_own_at _ rfl _ _ 134 rfl w.heap.size 159 i0 z 4 40 Tryz.underlying134 HI.out HZ0.out HZ1.out HZ2.out HZC.out (by decide) _ acc.length (cellsT acc) rfl (HR1.out.below ((below_alloc w1 _).alloc (by simp) _)) ⟨w1.heap.size + 1, 0, none⟩ 1 1 [.int .i64 tk, .string ts, .int .i64 tn, .int .i64 (k : Nat)] rfl (by simp) (fun j u hu => (by
          rw [add_zero_none]
          have hN := hb_new (w1.alloc (.cells #[.int .i64 tk, .string ts, .int .i64 tn, .int .i64 (k : Nat)] 159)) (.cells #[.int .i64 tk, .string ts, .int .i64 tn, .int .i64 (k : Nat)] 159)
          rw [World.size_alloc] at hN
          match j, hu with
          | 0, hu => cases hu; exact hb_at hN 0 rfl
          | 1, hu => cases hu; exact hb_at hN 1 rfl
          | 2, hu => cases hu; exact hb_at hN 2 rfl
          | 3, hu => cases hu; exact hb_at hN 3 rfl
          | j + 4, hu => simp at hu)) Q64 Q66 (by omega) (by have := HZ3; simp; omega) ?_
         intro v4 w4 ho4 hg4 _ hblk4
         have HO4 := Hd ho4
         have HG4 := Hd hg4
         clear ho4 hg4 hblk4
         go_wp2_with (go_at_call 171; refine (HKN.out _).mono ?_; rintro e w5 ⟨rfl, rfl⟩)
         have hB1 := HB.out.trans (HB1.out.mono HB.out.size)
         have hB2 := hB1.alloc hB1.size (.cells #[.int .i64 tk, .string ts, .int .i64 tn, .int .i64 (k : Nat)] 159)
         have hB3 := hB2.alloc hB2.size (.cells #[.int .i64 tk, .string ts, .int .i64 tn, .int .i64 (k : Nat)] 159)
         have hB4 := hB3.grown HG4.out hB3.size (fun g hg => by have := (HR1.out.lt g hg).1; omega)
         refine ⟨⟨k + m + S, acc ++ [(⟨tk, ts, tn⟩, k)], rfl, by omega, HQ.out.symm, by simp; omega, hB4, ?_⟩, by simp [intOf]; omega⟩
         unfold TkRow
         rw [cellsT_snoc]
         simpa using HO4.out
   · have hki : ¬ (k : Int) < (s.size : Int) := by omega
     have hRn : R = (acc, 0, 0) := by rw [HS.out, if_pos (by omega)]
     subst hRn
     go_wp2
     exact bodyPost_ret (v := .tuple #[.slice ao acc.length cap, .int .i64 0, .int .i64 0]) (by simp [results, Tryz.results121, go_sem]) rfl ⟨_, rfl, HROW.out, HB.out⟩
def readM {α : Type} (s : ByteArray) (one : Nat → Ts → Res α) : Except (Nat × Nat) α := if (lexM s).2.2 ≠ 0 then .error ((lexM s).2.1, (lexM s).2.2) else wholeP s.size (one s.size) (lexM s).1
def RdR (s : ByteArray) (one : Nat → Ts → Res Tm) (w : World) (e : Ending) (w' : World) : Prop := Below w.heap.size w w' ∧ match readM s one with
 | .ok t => ∃ v, e = .returned (.tuple #[v, .int .i64 0, .int .i64 0]) ∧ TmV w w' v t
 | .error y => e = .returned (.tuple #[zT, .int .i64 (y.1 : Nat), .int .i64 (y.2 : Nat)])
def OneC (one : Nat → Ts → Res Tm) (n : Nat) : Prop := ∀ r E ts W, Rd r E W ts → Calls Tryz.prog n #[rp r] W (Got r E TmV W (one E ts))
theorem res_read {tmps : Array Value} {p q e : Nat} (h4 : tmps[4]?.getD undef = bp p) (h5 : tmps[5]?.getD undef = bp q) (h6 : tmps[6]?.getD undef = bp e) {W : World} {c0 c1 c2 c3 c4 d f : Value} {t1 t2 t3 : TypeId} {f1 f2 f3 : Nat × Nat}
 (hp : W.heap[p]? = some (.cells #[c0, c1, c2, c3, c4] t1 f1)) (hq : W.heap[q]? = some (.cells #[d] t2 f2)) (he : W.heap[e]? = some (.cells #[f] t3 f3)) : (results Tryz.f70 tmps).run Tryz.prog W = .ok (.tuple #[.agg #[c0, c1, c2, c3, c4], d, f]) W := by
 obtain ⟨x0, x1, x2, x3, x4⟩ := hb5 hp
 have y0 := hb_at hq 0 rfl
 have z0 := hb_at he 0 rfl
 simp [results, Tryz.results70, h4, h5, h6, go_sem, Tryz.isAgg24, Tryz.isAgg3, Tryz.isAgg36, x0, x1, x2, x3, x4, y0, z0]
theorem fin_err {tmps : Array Value} {p q e : Nat} (h4 : tmps[4]?.getD undef = bp p) (h5 : tmps[5]?.getD undef = bp q) (h6 : tmps[6]?.getD undef = bp e) {s : ByteArray} {one : Nat → Ts → Res Tm} {w W : World} {x y : Nat} {t1 t2 t3 : TypeId} {f1 f2 f3 : Nat × Nat}
 (hp : W.heap[p]? = some (.cells #[.int .i64 0, .string ⟨#[]⟩, .string ⟨#[]⟩, .int .i64 0, .slice none 0 0] t1 f1)) (hq : W.heap[q]? = some (.cells #[.int .i64 (x : Nat)] t2 f2)) (he : W.heap[e]? = some (.cells #[.int .i64 (y : Nat)] t3 f3)) (hB : Below w.heap.size w W) (hM : readM s one = .error (x, y)) :
 Leaves Tryz.prog Tryz.f70 tmps (RdR s one w) [] .returning W := by
 refine ⟨_, res_read h4 h5 h6 hp hq he, hB, ?_⟩
 rw [hM]
theorem fin_term {tmps : Array Value} {p q e : Nat} (h4 : tmps[4]?.getD undef = bp p) (h5 : tmps[5]?.getD undef = bp q) (h6 : tmps[6]?.getD undef = bp e) {s : ByteArray} {one : Nat → Ts → Res Tm} {w W : World} {t : Tm} {k N : Int} {pk n : ByteArray} {sl : Value} {t1 t2 t3 : TypeId} {f1 f2 f3 : Nat × Nat}
 (hp : W.heap[p]? = some (.cells #[.int .i64 k, .string pk, .string n, .int .i64 N, sl] t1 f1)) (hq : W.heap[q]? = some (.cells #[.int .i64 0] t2 f2)) (he : W.heap[e]? = some (.cells #[.int .i64 0] t3 f3)) (hB : Below w.heap.size w W) (hM : readM s one = .ok t) (hV : TmV w W (tv k pk n N sl) t) :
 Leaves Tryz.prog Tryz.f70 tmps (RdR s one w) [] .returning W := by
 refine ⟨_, res_read h4 h5 h6 hp hq he, hB, ?_⟩
 rw [hM]
 exact ⟨_, rfl, hV⟩
theorem tok_zero {W : World} {p o : Nat} {x : Tk × Nat} {t : TypeId} {f : Nat × Nat} (hp : W.heap[p]? = some (.cells #[.int .i64 0, .string ⟨#[]⟩, .string ⟨#[]⟩, .int .i64 0, .slice none 0 0] t f)) (h : TokAt W p o x) : False := by
 obtain ⟨h0, h1, h2, h3⟩ := h
 rw [hb_cell hp] at h0 h1 h2 h3
 match o, h0, h1, h2, h3 with
 | 0, h0, h1, h2, h3 => simp at h2
 | 1, h0, h1, h2, h3 => simp at h0
 | 2, h0, h1, h2, h3 => simp at h0
 | 3, h0, h1, h2, h3 => simp at h1
 | 4, h0, h1, h2, h3 => simp at h0
 | o + 5, h0, h1, h2, h3 => simp at h0
theorem Rd.set5p {r E p : Nat} {W : World} {ts : Ts} (h : Rd r E W ts) {t : TypeId} {f : Nat × Nat} (hp : W.heap[p]? = some (.cells #[.int .i64 0, .string ⟨#[]⟩, .string ⟨#[]⟩, .int .i64 0, .slice none 0 0] t f)) (hpr : p ≠ r) (k : Int) (pk n : ByteArray) (N : Int) (s : Value) : Rd r E (Proofs.YtmkjalnlldpdcaaGreatDoor.set5w W p k pk n N s) ts := by
 obtain ⟨hE, v, h1, q, c, h2, h3, h4, h5, h6⟩ := h
 refine ⟨hE, v, by rw [Proofs.YtmkjalnlldpdcaaGreatDoor.set5w_other (fun e => hpr e.symm)]; exact h1, q, c, h2, h3, h4, h5, fun i x hx => ?_⟩
 obtain ⟨hz, b, o, e, hb, ht⟩ := h6 i x hx
 exact ⟨hz, b, o, e, hb, ht.move (Proofs.YtmkjalnlldpdcaaGreatDoor.set5w_other fun e => by subst e; exact tok_zero hp ht)⟩
theorem CatF.below {w w5 w6 : World} {p q e x y : Nat} (h : CatF w5 p q e x y w6) (hb : Below w.heap.size w w5) (hp : w.heap.size ≤ p) (hq : w.heap.size ≤ q) (he : w.heap.size ≤ e) : Below w.heap.size w w6 := by
 have h3 : w6.os = w5.os ∧ w6.tape = w5.tape ∧ w6.output = w5.output ∧ w5.heap.size ≤ w6.heap.size ∧ ∀ k, k < w5.heap.size → k ≠ p → k ≠ q → k ≠ e → w6.heap[k]? = w5.heap[k]? := h.2.2.2
 have hs := hb.size
 refine hb.trans (Below.mk h3.1 h3.2.1 h3.2.2.1 h3.2.2.2.1 fun k hk => ?_)
 exact h3.2.2.2.2 k (by omega) (by omega) (by omega) (by omega)
theorem below_rg {w w3 w5 : World} {n : Nat} {o : Obj} (hb : Below n w w3) (hn : n ≤ w3.heap.size) (hg : Rg w3.heap.size (w3.alloc o) w5) : Below n w w5 := by
 have hz : (w3.alloc o).heap.size = w3.heap.size + 1 := World.size_alloc _ _
 have hs := hg.size
 refine hb.trans (Below.mk hg.os hg.tape hg.output (by omega) fun k hk => ?_)
 rw [hg.same (by omega) (by omega), Below.heap_alloc _ _ _ (by omega)]
theorem fin_panic {tmps : Array Value} {p q e : Nat} (h4 : tmps[4]?.getD undef = bp p) (h5 : tmps[5]?.getD undef = bp q) (h6 : tmps[6]?.getD undef = bp e) {s : ByteArray} {one : Nat → Ts → Res Tm} {w W : World} {y : Nat × Nat} {c0 c1 c2 c3 c4 d0 f0 : Value}
 (hp : W.heap[p]? = some (.cells #[c0, c1, c2, c3, c4] 24 (0, 0))) (hq : W.heap[q]? = some (.cells #[d0] 3 (0, 0))) (he : W.heap[e]? = some (.cells #[f0] 36 (0, 0))) (hpq : p ≠ q) (hpe : p ≠ e) (hqe : q ≠ e) (hp1 : w.heap.size ≤ p) (hq1 : w.heap.size ≤ q) (he1 : w.heap.size ≤ e)
 (hB : Below w.heap.size w W) (hM : readM s one = .error y) :
 Leaves Tryz.prog Tryz.f70 tmps (RdR s one w) [{ target := .fn (.func 128) #[bp p, bp q, bp e], args := #[] }] (.panicking (flt y)) W := by
 refine leaves_cons (f := 128) (args := #[bp p, bp q, bp e]) (by simp) (by simp [go_sem]) ?_
 unfold flt
 refine (catch_panicking p q e y.1 y.2 [] _ _ _ _ _ _ _ W hp hq he hpq hpe hqe).mono ?_
 rintro e' u' w6 ⟨rfl, rfl, F⟩
 exact fin_err h4 h5 h6 F.1 F.2.1 F.2.2.1 (F.below hB hp1 hq1 he1) hM
theorem lex_res (s : ByteArray) (hm : s.size ≤ 4194304) (w : World) (hw : EscW w) {l : List (Tk × Nat)} {a r : Nat} (h : lexM s = (l, a, r)) : Calls Tryz.prog 121 #[.string s] w (fun e w' => ∃ tv, e = .returned (.tuple #[tv, .int .i64 (a : Nat), .int .i64 (r : Nat)]) ∧ TkRow w.heap.size w' tv l ∧ Below w.heap.size w w') := by
 refine (lex_any s hm w hw).mono ?_
 rintro e w' ⟨tv, he, h2, h3⟩
 rw [h] at he h2
 exact ⟨tv, he, h2, h3⟩
theorem read_any (s : ByteArray) (hm : s.size ≤ 4194304) (one : Nat → Ts → Res Tm) (n : Nat) (HC : OneC one n) (hcf : ∀ (r : Nat) (W : World), (callFunc n #[rp r]).run Tryz.prog W = .ok (.enter n #[rp r]) W) (w : World) (hw : EscW w) :
 Calls Tryz.prog 70 #[.string s, .func (.func n) #[] #[]] w (RdR s one w) := by
 have hpos : 0 < w.heap.size := hw.pos
 have HE := Hd hw
 obtain ⟨l1, a1, r1, hL⟩ : ∃ l a r, lexM s = (l, a, r) := ⟨_, _, _, rfl⟩
 have HL := Hd (fun (W : World) (hW : EscW W) => lex_res s hm W hW hL)
 have HLM := Hd hL
 clear hL
 have HC := Hd HC
 have hmf : ∀ (fn : Fn) (first cap : Array Value) (w : World), (Instr.makeFunc fn first cap).run Tryz.prog w = .ok (.func fn first cap) w := fun _ _ _ _ => rfl
 clear hw
 obtain ⟨c0, c1, c2, hz3, hb3⟩ := boxes3 w (.cells #[.int .i64 0, .string ⟨#[]⟩, .string ⟨#[]⟩, .int .i64 0, .slice none 0 0] 24) (.cells #[.int .i64 0] 3) (.cells #[.int .i64 0] 36)
 have HE1 := Hd (HE.out.below hb3 hpos)
 go_enter_defers Tryz.func70, Tryz.ntmps70
 go_upto_region 1 with (fail)
 generalize hW1 : ((w.alloc (.cells #[.int .i64 0, .string ⟨#[]⟩, .string ⟨#[]⟩, .int .i64 0, .slice none 0 0] 24)).alloc (.cells #[.int .i64 0] 3)).alloc (.cells #[.int .i64 0] 36) = W1 at *
 have HBp1 := Hd c0
 have HBq1 := Hd c1
 have HBe1 := Hd c2
 have HB1 := Hd hb3
 clear hW1 c0 c1 c2 hb3
 go_upto_region 2 with (go_at_call 121; (with_reducible refine (HL.out _ HE1.out).mono ?_); rintro e w2 ⟨tv2, rfl, htk, hb2⟩; have HTK := Hd htk; have HB2 := Hd hb2; have p2 := hb_below HBp1.out hb2 (hb_lt HBp1.out); have q2 := hb_below HBq1.out hb2 (hb_lt HBq1.out); have e2 := hb_below HBe1.out hb2 (hb_lt HBe1.out); have HBp2 := Hd p2; have HBq2 := Hd q2; have HBe2 := Hd e2; obtain ⟨x0, x1, x2, x3, x4, y0, y1, y2, y3, y4⟩ := box5 p2; have q2a := hb_at q2 0 rfl; have q2b := hb_free q2 0; have e2a := hb_at e2 0 rfl; have e2b := hb_free e2 0; have zp := hb_lt p2; have zq := hb_lt q2; have ze := hb_lt e2; clear htk hb2 p2 q2 e2)
 have p3 : ((w2.setCell ⟨w.heap.size + 1, 0, none⟩ (.int .i64 (a1 : Nat))).setCell ⟨w.heap.size + 1 + 1, 0, none⟩ (.int .i64 (r1 : Nat))).heap[w.heap.size]? = some (.cells #[.int .i64 0, .string ⟨#[]⟩, .string ⟨#[]⟩, .int .i64 0, .slice none 0 0] 24 (0, 0)) := hb_set_other (hb_set_other HBp2.out (a := ⟨w.heap.size + 1, 0, none⟩) _ Q52) (a := ⟨w.heap.size + 1 + 1, 0, none⟩) _ (by show w.heap.size ≠ w.heap.size + 1 + 1; omega)
 have q3 : ((w2.setCell ⟨w.heap.size + 1, 0, none⟩ (.int .i64 (a1 : Nat))).setCell ⟨w.heap.size + 1 + 1, 0, none⟩ (.int .i64 (r1 : Nat))).heap[w.heap.size + 1]? = some (.cells #[.int .i64 (a1 : Nat)] 3 (0, 0)) := hb_set_other (hb_set_same HBq2.out 0 _) (a := ⟨w.heap.size + 1 + 1, 0, none⟩) _ (by show w.heap.size + 1 ≠ w.heap.size + 1 + 1; omega)
 have e3 : ((w2.setCell ⟨w.heap.size + 1, 0, none⟩ (.int .i64 (a1 : Nat))).setCell ⟨w.heap.size + 1 + 1, 0, none⟩ (.int .i64 (r1 : Nat))).heap[w.heap.size + 1 + 1]? = some (.cells #[.int .i64 (r1 : Nat)] 36 (0, 0)) := hb_set_same (hb_set_other HBe2.out (a := ⟨w.heap.size + 1, 0, none⟩) _ (by show w.heap.size + 1 + 1 ≠ w.heap.size + 1; omega)) 0 _
 have b3 : Below w.heap.size w ((w2.setCell ⟨w.heap.size + 1, 0, none⟩ (.int .i64 (a1 : Nat))).setCell ⟨w.heap.size + 1 + 1, 0, none⟩ (.int .i64 (r1 : Nat))) := ((HB1.out.trans (HB2.out.mono HB1.out.size)).setCell (by show w.heap.size ≤ w.heap.size + 1; omega) _).setCell (by show w.heap.size ≤ w.heap.size + 1 + 1; omega) _
 have k3 : TkRow W1.heap.size ((w2.setCell ⟨w.heap.size + 1, 0, none⟩ (.int .i64 (a1 : Nat))).setCell ⟨w.heap.size + 1 + 1, 0, none⟩ (.int .i64 (r1 : Nat))) tv2 l1 := own_kept HTK.out fun g x hg hx => by
  have := (World.ownsRow.lt HTK.out g hg).1
  exact hb_set_other (hb_set_other hx (a := ⟨w.heap.size + 1, 0, none⟩) _ (by show g ≠ w.heap.size + 1; omega)) (a := ⟨w.heap.size + 1 + 1, 0, none⟩) _ (by show g ≠ w.heap.size + 1 + 1; omega)
 have hW3 : ∃ w3, w3 = ((w2.setCell ⟨w.heap.size + 1, 0, none⟩ (.int .i64 (a1 : Nat))).setCell ⟨w.heap.size + 1 + 1, 0, none⟩ (.int .i64 (r1 : Nat))) := ⟨_, rfl⟩
 obtain ⟨w3, hW3⟩ := hW3
 rw [← hW3] at p3 q3 e3 b3 k3 ⊢
 clear hW3
 have HBp3 := Hd p3
 have HBq3 := Hd q3
 have HBe3 := Hd e3
 have HB3 := Hd b3
 have HK3 := Hd k3
 obtain ⟨m0, m1, m2, m3, m4, n0, n1, n2, n3, n4⟩ := box5 p3
 have q3a := hb_at q3 0 rfl
 have q3b := hb_free q3 0
 have e3a := hb_at e3 0 rfl
 have e3b := hb_free e3 0
 have zp3 := hb_lt p3
 have zq3 := hb_lt q3
 have ze3 := hb_lt e3
 clear p3 q3 e3 b3 k3 HBp2 HBq2 HBe2 HB2 HTK
 by_cases her : r1 = 0
 · subst her
   have hlx : (lexM s).2.2 = 0 := by rw [HLM.out]
   have ha1 : a1 = 0 := by
    have h := (lexM_lexed hlx).2.2.2
    rw [HLM.out] at h
    exact h
   subst ha1
   obtain ⟨hs20, hl6, hsz⟩ := lexM_small hlx
   rw [HLM.out] at hl6 hsz
   have hM : readM s one = wholeP s.size (one s.size) l1 := by
    unfold readM
    rw [HLM.out]
    exact if_neg (fun h => h rfl)
   obtain ⟨ao, cap, htv⟩ := HK3.out.shape
   subst htv
   have hr4 : Rd w3.heap.size s.size (w3.alloc (.cells #[.slice ao l1.length cap, .int .i64 (s.size : Nat)] 149)) l1 := ⟨by omega, _, hb_new _ _, (HK3.out.tok (Nat.le_refl _) hl6 (fun x hx => Nat.le_trans (hsz x hx).2 (by decide))).upto fun b hb hl => Below.heap_alloc _ _ _ hl⟩
   have HR4 := Hd hr4
   have HX4 := Hd (HC.out w3.heap.size s.size l1 _ hr4)
   have HMR := Hd hM
   clear hr4 hM hsz hlx HK3
   have hcf' := hcf w3.heap.size
   cases hX : one s.size l1 with
   | error y =>
    rw [hX] at HX4
    have hM : readM s one = .error y := by rw [HMR.out]; unfold wholeP; rw [hX]
    have HM2 := Hd hM
    clear hM HMR
    go_wp2_with ((with_reducible refine HX4.out.mono ?_); rintro e w5 ⟨hg, hy⟩; subst hy; have HG5 := Hd hg; clear hg)
    exact fin_panic rfl rfl rfl (HG5.out.keep (hb_alloc HBp3.out _) (by omega)) (HG5.out.keep (hb_alloc HBq3.out _) (by omega)) (HG5.out.keep (hb_alloc HBe3.out _) (by omega)) (by omega) (by omega) (by omega) (by omega) (by omega) (by omega) (below_rg HB3.out (by omega) HG5.out) HM2.out
   | ok y =>
    rw [hX] at HX4
    obtain ⟨t5, ts5⟩ := y
    have hM : readM s one = if ts5.length = 0 then .ok t5 else .error ((nx s.size ts5).2, 10) := by rw [HMR.out]; unfold wholeP; rw [hX]
    have HM2 := Hd hM
    clear hM HMR
    go_upto_region 7 with ((with_reducible refine HX4.out.mono ?_); rintro e w5 ⟨hg, ⟨v5, rfl, hV⟩, hR5⟩; (obtain ⟨k5, pk5, n5, N5, q5, ln5, cc5, rfl⟩ := hV.shape); have HV5 := Hd hV; have HG5 := Hd hg; have HR5 := Hd hR5; have HBp5 := Hd (hg.keep (hb_alloc HBp3.out _) (by omega)); have HBq5 := Hd (hg.keep (hb_alloc HBq3.out _) (by omega)); have HBe5 := Hd (hg.keep (hb_alloc HBe3.out _) (by omega)); have HB5 := Hd (below_rg HB3.out (by omega) hg); clear hg hV hR5; obtain ⟨x0, x1, x2, x3, x4, y0, y1, y2, y3, y4⟩ := box5 HBp5.out)
    have p6 : (((((w5.setCell ⟨w.heap.size, 0, none⟩ (.int .i64 k5)).setCell ⟨w.heap.size, 1, none⟩ (.string pk5)).setCell ⟨w.heap.size, 2, none⟩ (.string n5)).setCell ⟨w.heap.size, 3, none⟩ (.int .i64 N5)).setCell ⟨w.heap.size, 4, none⟩ (.slice q5 ln5 cc5)).heap[w.heap.size]? = some (.cells #[.int .i64 k5, .string pk5, .string n5, .int .i64 N5, .slice q5 ln5 cc5] 24 (0, 0)) := set5w_box HBp5.out _ _ _ _ _
    have q6 : (((((w5.setCell ⟨w.heap.size, 0, none⟩ (.int .i64 k5)).setCell ⟨w.heap.size, 1, none⟩ (.string pk5)).setCell ⟨w.heap.size, 2, none⟩ (.string n5)).setCell ⟨w.heap.size, 3, none⟩ (.int .i64 N5)).setCell ⟨w.heap.size, 4, none⟩ (.slice q5 ln5 cc5)).heap[w.heap.size + 1]? = some (.cells #[.int .i64 (0 : Nat)] 3 (0, 0)) := (set5w_other (k := k5) (p := pk5) (n := n5) (N := N5) (s := .slice q5 ln5 cc5) (by omega)).trans HBq5.out
    have e6 : (((((w5.setCell ⟨w.heap.size, 0, none⟩ (.int .i64 k5)).setCell ⟨w.heap.size, 1, none⟩ (.string pk5)).setCell ⟨w.heap.size, 2, none⟩ (.string n5)).setCell ⟨w.heap.size, 3, none⟩ (.int .i64 N5)).setCell ⟨w.heap.size, 4, none⟩ (.slice q5 ln5 cc5)).heap[w.heap.size + 1 + 1]? = some (.cells #[.int .i64 (0 : Nat)] 36 (0, 0)) := (set5w_other (k := k5) (p := pk5) (n := n5) (N := N5) (s := .slice q5 ln5 cc5) (by omega)).trans HBe5.out
    have r6 : Rd w3.heap.size s.size (((((w5.setCell ⟨w.heap.size, 0, none⟩ (.int .i64 k5)).setCell ⟨w.heap.size, 1, none⟩ (.string pk5)).setCell ⟨w.heap.size, 2, none⟩ (.string n5)).setCell ⟨w.heap.size, 3, none⟩ (.int .i64 N5)).setCell ⟨w.heap.size, 4, none⟩ (.slice q5 ln5 cc5)) ts5 := HR5.out.set5p HBp5.out (by omega) k5 pk5 n5 N5 (.slice q5 ln5 cc5)
    have b6 : Below w.heap.size w (((((w5.setCell ⟨w.heap.size, 0, none⟩ (.int .i64 k5)).setCell ⟨w.heap.size, 1, none⟩ (.string pk5)).setCell ⟨w.heap.size, 2, none⟩ (.string n5)).setCell ⟨w.heap.size, 3, none⟩ (.int .i64 N5)).setCell ⟨w.heap.size, 4, none⟩ (.slice q5 ln5 cc5)) := ((((HB5.out.setCell (Nat.le_refl _) _).setCell (Nat.le_refl _) _).setCell (Nat.le_refl _) _).setCell (Nat.le_refl _) _).setCell (Nat.le_refl _) _
    have v6 : TmV (w3.alloc (.cells #[.slice ao l1.length cap, .int .i64 (s.size : Nat)] 149)) (((((w5.setCell ⟨w.heap.size, 0, none⟩ (.int .i64 k5)).setCell ⟨w.heap.size, 1, none⟩ (.string pk5)).setCell ⟨w.heap.size, 2, none⟩ (.string n5)).setCell ⟨w.heap.size, 3, none⟩ (.int .i64 N5)).setCell ⟨w.heap.size, 4, none⟩ (.slice q5 ln5 cc5)) (tv k5 pk5 n5 N5 (.slice q5 ln5 cc5)) t5 := HV5.out.move (r := w.heap.size) Q57 (((((Rg.refl w.heap.size w5).set 0 _).set 1 _).set 2 _).set 3 _ |>.set 4 _)
    obtain ⟨w6, hW6⟩ : ∃ w6, w6 = (((((w5.setCell ⟨w.heap.size, 0, none⟩ (.int .i64 k5)).setCell ⟨w.heap.size, 1, none⟩ (.string pk5)).setCell ⟨w.heap.size, 2, none⟩ (.string n5)).setCell ⟨w.heap.size, 3, none⟩ (.int .i64 N5)).setCell ⟨w.heap.size, 4, none⟩ (.slice q5 ln5 cc5)) := ⟨_, rfl⟩
    rw [← hW6] at p6 q6 e6 r6 b6 v6 ⊢
    clear hW6 x0 x1 x2 x3 x4 y0 y1 y2 y3 y4 m0 m1 m2 m3 m4 n0 n1 n2 n3 n4 q3a q3b e3a e3b HG5 HBp5 HBq5 HBe5 HB5 HV5 HR5
    have HBp6 := Hd p6
    have HBq6 := Hd q6
    have HBe6 := Hd e6
    have HR6 := Hd r6
    have HB6 := Hd b6
    have HV6 := Hd v6
    obtain ⟨x0, x1, x2, x3, x4, y0, y1, y2, y3, y4⟩ := box5 p6
    have q6a := hb_at q6 0 rfl
    have q6b := hb_free q6 0
    have e6a := hb_at e6 0 rfl
    have e6b := hb_free e6 0
    have zp6 := hb_lt p6
    have zq6 := hb_lt q6
    have ze6 := hb_lt e6
    obtain ⟨_, tv6, hr6, qq6, cq6, htv6, _⟩ := r6
    subst htv6
    have r6a := hb_at hr6 0 rfl
    have zr6 := hb_lt hr6
    have hw4 : w.heap.size ≤ (w3.alloc (.cells #[.slice ao l1.length cap, .int .i64 (s.size : Nat)] 149)).heap.size := by rw [World.size_alloc]; omega
    have hw5 : w.heap.size + 1 + 1 < (w3.alloc (.cells #[.slice ao l1.length cap, .int .i64 (s.size : Nat)] 149)).heap.size := by rw [World.size_alloc]; omega
    clear p6 q6 e6 b6 v6 hr6
    by_cases hl : ts5.length = 0
    · have hd : decide ((0 : Int) < (ts5.length : Int)) = false := decide_eq_false (by omega)
      have hM : readM s one = .ok t5 := by rw [HM2.out]; exact if_pos hl
      have HM3 := Hd hM
      have hPp : ∀ V : World, V = ((set5w w6 w.heap.size k5 pk5 n5 N5 (.slice q5 ln5 cc5)).setCell ⟨w.heap.size + 1, 0, none⟩ (.int .i64 0)).setCell ⟨w.heap.size + 1 + 1, 0, none⟩ (.int .i64 0) → V.heap[w.heap.size]? = some (.cells #[.int .i64 k5, .string pk5, .string n5, .int .i64 N5, .slice q5 ln5 cc5] 24 (0, 0)) ∧ V.heap[w.heap.size + 1]? = some (.cells #[.int .i64 0] 3 (0, 0)) ∧ V.heap[w.heap.size + 1 + 1]? = some (.cells #[.int .i64 0] 36 (0, 0)) ∧ Below w.heap.size w V ∧ TmV w V (tv k5 pk5 n5 N5 (.slice q5 ln5 cc5)) t5 := by
       intro V hV
       refine ⟨?_, ?_, ?_, ?_, ?_⟩
       · rw [hV]
         exact hb_set_other (hb_set_other (set5w_box HBp6.out _ _ _ _ _) (a := ⟨w.heap.size + 1, 0, none⟩) _ Q52) (a := ⟨w.heap.size + 1 + 1, 0, none⟩) _ (by show w.heap.size ≠ w.heap.size + 1 + 1; omega)
       · rw [hV]
         refine hb_set_other (hb_set_same (c := #[.int .i64 (0 : Nat)]) ?_ 0 _) (a := ⟨w.heap.size + 1 + 1, 0, none⟩) _ (by show w.heap.size + 1 ≠ w.heap.size + 1 + 1; omega)
         rw [set5w_other (by omega)]
         exact HBq6.out
       · rw [hV]
         refine hb_set_same (c := #[.int .i64 (0 : Nat)]) (hb_set_other ?_ (a := ⟨w.heap.size + 1, 0, none⟩) _ (by show w.heap.size + 1 + 1 ≠ w.heap.size + 1; omega)) 0 _
         rw [set5w_other (by omega)]
         exact HBe6.out
       · rw [hV]
         have h5 : Below w.heap.size w (set5w w6 w.heap.size k5 pk5 n5 N5 (.slice q5 ln5 cc5)) := ((((HB6.out.setCell (Nat.le_refl _) _).setCell (Nat.le_refl _) _).setCell (Nat.le_refl _) _).setCell (Nat.le_refl _) _).setCell (Nat.le_refl _) _
         exact (h5.setCell (by show w.heap.size ≤ w.heap.size + 1; omega) _).setCell (by show w.heap.size ≤ w.heap.size + 1 + 1; omega) _
       · have h5 : TmV (w3.alloc (.cells #[.slice ao l1.length cap, .int .i64 (s.size : Nat)] 149)) (set5w w6 w.heap.size k5 pk5 n5 N5 (.slice q5 ln5 cc5)) (tv k5 pk5 n5 N5 (.slice q5 ln5 cc5)) t5 := HV6.out.move (r := w.heap.size) (by omega) (((((Rg.refl w.heap.size w6).set 0 _).set 1 _).set 2 _).set 3 _ |>.set 4 _)
         have h6 := (h5.move (r := w.heap.size + 1) (by omega) ((Rg.refl (w.heap.size + 1) _).set 0 (.int .i64 0))).move (r := w.heap.size + 1 + 1) (by omega) ((Rg.refl (w.heap.size + 1 + 1) _).set 0 (.int .i64 0))
         rw [← hV] at h6
         exact h6.up hw4
      clear hM
      go_wp2
      all_goals
       have F := hPp _ rfl
       refine leaves_cons (f := 128) (args := #[bp w.heap.size, bp (w.heap.size + 1), bp (w.heap.size + 1 + 1)]) (by simp) (by simp [go_sem]) ?_
       refine (catch_idle _ _ _ _).mono ?_
       rintro e' u' w8 ⟨rfl, rfl, rfl⟩
       exact fin_term rfl rfl rfl F.1 F.2.1 F.2.2.1 F.2.2.2.1 HM3.out F.2.2.2.2
    · have hd : decide ((0 : Int) < (ts5.length : Int)) = true := decide_eq_true (by omega)
      have hM : readM s one = .error ((nx s.size ts5).2, 10) := by rw [HM2.out]; exact if_neg hl
      have HM3 := Hd hM
      have HF := Hd (fun W hW => fault_at w3.heap.size s.size 10 ts5 W hW 10 rfl)
      clear hM
      go_upto_region 8 with (fail)
      go_wp2_with (go_at_call 123; (with_reducible refine (HF.out _ HR6.out).mono ?_); rintro e w7 ⟨rfl, hb7⟩; have HB7 := Hd hb7; clear hb7)
      exact fin_panic rfl rfl rfl (hb_below HBp6.out HB7.out (by omega)) (hb_below HBq6.out HB7.out (by omega)) (hb_below HBe6.out HB7.out (by omega)) (by omega) (by omega) (by omega) (by omega) (by omega) (by omega) (HB6.out.trans (HB7.out.mono HB6.out.size)) HM3.out
 · have hd : ((r1 : Int) != 0) = true := by simp; omega
   have hM : readM s one = .error (a1, r1) := by
    unfold readM
    rw [HLM.out]
    exact if_pos her
   have HMR := Hd hM
   clear hM
   have hPp : ∀ V : World, V = ((set5w w3 w.heap.size 0 ⟨#[]⟩ ⟨#[]⟩ 0 (.slice none 0 0)).setCell ⟨w.heap.size + 1, 0, none⟩ (.int .i64 (a1 : Nat))).setCell ⟨w.heap.size + 1 + 1, 0, none⟩ (.int .i64 (r1 : Nat)) → V.drew.heap[w.heap.size]? = some (.cells #[.int .i64 0, .string ⟨#[]⟩, .string ⟨#[]⟩, .int .i64 0, .slice none 0 0] 24 (0, 0)) ∧ V.drew.heap[w.heap.size + 1]? = some (.cells #[.int .i64 (a1 : Nat)] 3 (0, 0)) ∧ V.drew.heap[w.heap.size + 1 + 1]? = some (.cells #[.int .i64 (r1 : Nat)] 36 (0, 0)) ∧ Below w.heap.size w V.drew := by
    intro V hV
    have d1 : V.drew.heap = V.heap := rfl
    rw [d1]
    refine ⟨?_, ?_, ?_, Below.drew ?_⟩ <;> rw [hV]
    · exact hb_set_other (hb_set_other (set5w_box HBp3.out _ _ _ _ _) (a := ⟨w.heap.size + 1, 0, none⟩) _ Q52) (a := ⟨w.heap.size + 1 + 1, 0, none⟩) _ (by show w.heap.size ≠ w.heap.size + 1 + 1; omega)
    · refine hb_set_other (hb_set_same (c := #[.int .i64 (a1 : Nat)]) ?_ 0 _) (a := ⟨w.heap.size + 1 + 1, 0, none⟩) _ (by show w.heap.size + 1 ≠ w.heap.size + 1 + 1; omega)
      rw [set5w_other (by omega)]
      exact HBq3.out
    · refine hb_set_same (c := #[.int .i64 (r1 : Nat)]) (hb_set_other ?_ (a := ⟨w.heap.size + 1, 0, none⟩) _ (by show w.heap.size + 1 + 1 ≠ w.heap.size + 1; omega)) 0 _
      rw [set5w_other (by omega)]
      exact HBe3.out
    · have h5 : Below w.heap.size w (set5w w3 w.heap.size 0 ⟨#[]⟩ ⟨#[]⟩ 0 (.slice none 0 0)) := ((((HB3.out.setCell (Nat.le_refl _) _).setCell (Nat.le_refl _) _).setCell (Nat.le_refl _) _).setCell (Nat.le_refl _) _).setCell (Nat.le_refl _) _
      exact (h5.setCell (by show w.heap.size ≤ w.heap.size + 1; omega) _).setCell (by show w.heap.size ≤ w.heap.size + 1 + 1; omega) _
   go_upto_region 3 with (fail)
   go_region_with (fail)
   all_goals
    go_wp2
    have F := hPp _ rfl
    exact fin_err rfl rfl rfl F.1 F.2.1 F.2.2.1 F.2.2.2 HMR.out
def exprM (s : ByteArray) : Except (Nat × Nat) Tm := readM s fun E ts => exprP E 40 ts
def typM (s : ByteArray) : Except (Nat × Nat) Tm := readM s fun E ts => typP E 40 ts
theorem res_box {i : Nat} {tmps : Array Value} {fn : Func} (hres : fn.results = #[ResultVar.cell i 24]) {g : Nat} (h : tmps[i]?.getD undef = bp g) {w : World} {c0 c1 c2 c3 c4 : Value} {t : TypeId} {f : Nat × Nat} (hb : w.heap[g]? = some (.cells #[c0, c1, c2, c3, c4] t f)) :
 (results fn tmps).run Tryz.prog w = .ok (.agg #[c0, c1, c2, c3, c4]) w := res_term hres h hb
theorem exprTop_any : OneC (fun E ts => exprP E 40 ts) 71 := by
 intro r E ts w hR
 have HR := Hd hR
 have hrl := hR.lt
 have HC : Hid (∀ W, Rd r E W ts → Calls Tryz.prog 72 #[rp r, .int .i64 1] W (Got r E TmV W (exprP E 40 ts))) := Hd (fun W hW => exprA_any r E 40 1 rfl ts W hW)
 clear hR
 show Calls _ _ _ _ (Got r E TmV w (exprP E 40 ts))
 generalize exprP E 40 ts = X at *
 go_enter Tryz.func71, Tryz.ntmps71
 cases X with
 | error y =>
  go_wp2_with (go_at_call 72; (with_reducible refine (HC.out _ (HR.out.alloc _)).mono ?_); rintro e w1 ⟨hg, hy⟩; subst hy; have HG := Hd hg; clear hg)
  all_goals exact ⟨rfl, (Rg.refl r w).alloc _ |>.trans HG.out, rfl⟩
 | ok y =>
  obtain ⟨t, ts'⟩ := y
  go_wp2_with (go_at_call 72; (with_reducible refine (HC.out _ (HR.out.alloc _)).mono ?_); rintro e w1 ⟨hg, ⟨v, rfl, hV⟩, hR1⟩; (obtain ⟨k, pk, n, N, q, ln, c, rfl⟩ := hV.shape); have HV := Hd hV; have HG := Hd hg; have HR1 := Hd hR1; have hb := hg.keep (hb_new _ _) (by omega); have HB := Hd hb; have zb := hb_lt hb; obtain ⟨x0, x1, x2, x3, x4, y0, y1, y2, y3, y4⟩ := box5 hb; clear hg hV hR1 hb)
  all_goals
   refine bodyPost_ret (v := tv k pk n N (.slice q ln c)) (res_box rfl rfl (set5w_box HB.out _ _ _ _ _)) rfl ?_
   refine ⟨((Rg.refl r w).alloc _ |>.trans HG.out) |>.set_new (Nat.le_refl _) 0 _ |>.set_new (Nat.le_refl _) 1 _ |>.set_new (Nat.le_refl _) 2 _ |>.set_new (Nat.le_refl _) 3 _ |>.set_new (Nat.le_refl _) 4 _, ⟨_, rfl, ?_⟩, ?_⟩
   · have h1 := HV.out.move (r := w.heap.size) Q57 (((((Rg.refl w.heap.size w1).set 0 (.int .i64 k)).set 1 (.string pk)).set 2 (.string n)).set 3 (.int .i64 N) |>.set 4 (.slice q ln c))
     exact h1.up Q57
   · exact ((((HR1.out.set_new hrl 0 _).set_new hrl 1 _).set_new hrl 2 _).set_new hrl 3 _).set_new hrl 4 _
theorem typTop_any : OneC (fun E ts => typP E 40 ts) 73 := by
 intro r E ts w hR
 have HR := Hd hR
 have hrl := hR.lt
 have HC : Hid (∀ W, Rd r E W ts → Calls Tryz.prog 74 #[rp r, .int .i64 1] W (Got r E TmV W (typP E 40 ts))) := Hd (fun W hW => typA_any r E 40 1 rfl ts W hW)
 clear hR
 show Calls _ _ _ _ (Got r E TmV w (typP E 40 ts))
 generalize typP E 40 ts = X at *
 go_enter Tryz.func73, Tryz.ntmps73
 cases X with
 | error y =>
  go_wp2_with (go_at_call 74; (with_reducible refine (HC.out _ (HR.out.alloc _)).mono ?_); rintro e w1 ⟨hg, hy⟩; subst hy; have HG := Hd hg; clear hg)
  all_goals exact ⟨rfl, (Rg.refl r w).alloc _ |>.trans HG.out, rfl⟩
 | ok y =>
  obtain ⟨t, ts'⟩ := y
  go_wp2_with (go_at_call 74; (with_reducible refine (HC.out _ (HR.out.alloc _)).mono ?_); rintro e w1 ⟨hg, ⟨v, rfl, hV⟩, hR1⟩; (obtain ⟨k, pk, n, N, q, ln, c, rfl⟩ := hV.shape); have HV := Hd hV; have HG := Hd hg; have HR1 := Hd hR1; have hb := hg.keep (hb_new _ _) (by omega); have HB := Hd hb; have zb := hb_lt hb; obtain ⟨x0, x1, x2, x3, x4, y0, y1, y2, y3, y4⟩ := box5 hb; clear hg hV hR1 hb)
  all_goals
   refine bodyPost_ret (v := tv k pk n N (.slice q ln c)) (res_box rfl rfl (set5w_box HB.out _ _ _ _ _)) rfl ?_
   refine ⟨((Rg.refl r w).alloc _ |>.trans HG.out) |>.set_new (Nat.le_refl _) 0 _ |>.set_new (Nat.le_refl _) 1 _ |>.set_new (Nat.le_refl _) 2 _ |>.set_new (Nat.le_refl _) 3 _ |>.set_new (Nat.le_refl _) 4 _, ⟨_, rfl, ?_⟩, ?_⟩
   · have h1 := HV.out.move (r := w.heap.size) Q57 (((((Rg.refl w.heap.size w1).set 0 (.int .i64 k)).set 1 (.string pk)).set 2 (.string n)).set 3 (.int .i64 N) |>.set 4 (.slice q ln c))
     exact h1.up Q57
   · exact ((((HR1.out.set_new hrl 0 _).set_new hrl 1 _).set_new hrl 2 _).set_new hrl 3 _).set_new hrl 4 _
theorem res_exprR {tmps : Array Value} {g : Nat} {a b : Value} (h2 : tmps[2]?.getD undef = bp g) (h3 : tmps[3]?.getD undef = a) (h4 : tmps[4]?.getD undef = b) {W : World} {c0 c1 c2 c3 c4 : Value} {t : TypeId} {f : Nat × Nat} (hb : W.heap[g]? = some (.cells #[c0, c1, c2, c3, c4] t f)) :
 (results Tryz.f23 tmps).run Tryz.prog W = .ok (.tuple #[.agg #[c0, c1, c2, c3, c4], a, b]) W := by
 obtain ⟨x0, x1, x2, x3, x4⟩ := hb5 hb
 simp [results, Tryz.results23, h2, h3, h4, go_sem, Tryz.isAgg24, Tryz.isAgg3, Tryz.isAgg36, x0, x1, x2, x3, x4]
def ExprR (s : ByteArray) (w : World) (e : Ending) (w' : World) : Prop := Below w.heap.size w w' ∧ match exprM s with
 | .ok t => ∃ v, e = .returned (.tuple #[v, .int .i64 0, .int .i64 0]) ∧ TmV w w' v t
 | .error y => e = .returned (.tuple #[zT, .int .i64 (y.1 : Nat), .int .i64 (y.2 : Nat)])
theorem exprR_any (s : ByteArray) (hm : s.size ≤ 4194304) (w : World) (hw : EscW w) : Calls Tryz.prog 23 #[.string s] w (ExprR s w) := by
 have hpos : 0 < w.heap.size := hw.pos
 have HE := Hd hw
 have HC := Hd (fun W hW => read_any s hm _ 71 exprTop_any (fun _ _ => rfl) W hW)
 clear hw
 unfold RdR at HC
 unfold ExprR
 change Hid (∀ W, EscW W → Calls Tryz.prog 70 #[.string s, .func (.func 71) #[] #[]] W fun e w' => Below W.heap.size W w' ∧ match exprM s with
  | .ok t => ∃ v, e = .returned (.tuple #[v, .int .i64 0, .int .i64 0]) ∧ TmV W w' v t
  | .error y => e = .returned (.tuple #[zT, .int .i64 (y.1 : Nat), .int .i64 (y.2 : Nat)])) at HC
 generalize exprM s = X at *
 have HE1 := Hd (HE.out.below (below_alloc w (.cells #[.int .i64 0, .string ⟨#[]⟩, .string ⟨#[]⟩, .int .i64 0, .slice none 0 0] 24)) hpos)
 go_enter Tryz.func23, Tryz.ntmps23
 cases X with
 | error y =>
  go_wp2_with (go_at_call 70; (with_reducible refine (HC.out _ HE1.out).mono ?_); rintro e w1 ⟨hg, rfl⟩; have HG := Hd hg; have hb := hb_below (hb_new _ _) hg (hb_lt (hb_new _ _)); have HB := Hd hb; have zb := hb_lt hb; obtain ⟨x0, x1, x2, x3, x4, y0, y1, y2, y3, y4⟩ := box5 hb; clear hg hb)
  all_goals
   refine bodyPost_ret (v := .tuple #[zT, .int .i64 (y.1 : Nat), .int .i64 (y.2 : Nat)]) (res_exprR rfl rfl rfl (set5w_box HB.out _ _ _ _ _)) rfl ⟨?_, rfl⟩
   exact ((((((below_alloc w _).trans (HG.out.mono Q57)).setCell (Nat.le_refl _) _).setCell (Nat.le_refl _) _).setCell (Nat.le_refl _) _).setCell (Nat.le_refl _) _).setCell (Nat.le_refl _) _
 | ok t =>
  go_wp2_with (go_at_call 70; (with_reducible refine (HC.out _ HE1.out).mono ?_); rintro e w1 ⟨hg, v, rfl, hV⟩; (obtain ⟨k, pk, n, N, q, ln, c, rfl⟩ := hV.shape); have HV := Hd hV; have HG := Hd hg; have hb := hb_below (hb_new _ _) hg (hb_lt (hb_new _ _)); have HB := Hd hb; have zb := hb_lt hb; obtain ⟨x0, x1, x2, x3, x4, y0, y1, y2, y3, y4⟩ := box5 hb; clear hg hb hV)
  all_goals
   refine bodyPost_ret (v := .tuple #[tv k pk n N (.slice q ln c), .int .i64 0, .int .i64 0]) (res_exprR rfl rfl rfl (set5w_box HB.out _ _ _ _ _)) rfl ⟨?_, _, rfl, ?_⟩
   · exact ((((((below_alloc w _).trans (HG.out.mono Q57)).setCell (Nat.le_refl _) _).setCell (Nat.le_refl _) _).setCell (Nat.le_refl _) _).setCell (Nat.le_refl _) _).setCell (Nat.le_refl _) _
   · have h1 := HV.out.move (r := w.heap.size) Q57 (((((Rg.refl w.heap.size w1).set 0 (.int .i64 k)).set 1 (.string pk)).set 2 (.string n)).set 3 (.int .i64 N) |>.set 4 (.slice q ln c))
     exact h1.up Q57
theorem res_typR {tmps : Array Value} {g : Nat} {a b : Value} (h2 : tmps[2]?.getD undef = bp g) (h3 : tmps[3]?.getD undef = a) (h4 : tmps[4]?.getD undef = b) {W : World} {c0 c1 c2 c3 c4 : Value} {t : TypeId} {f : Nat × Nat} (hb : W.heap[g]? = some (.cells #[c0, c1, c2, c3, c4] t f)) :
 (results Tryz.f25 tmps).run Tryz.prog W = .ok (.tuple #[.agg #[c0, c1, c2, c3, c4], a, b]) W := by
 obtain ⟨x0, x1, x2, x3, x4⟩ := hb5 hb
 simp [results, Tryz.results25, h2, h3, h4, go_sem, Tryz.isAgg24, Tryz.isAgg3, Tryz.isAgg36, x0, x1, x2, x3, x4]
def TypR (s : ByteArray) (w : World) (e : Ending) (w' : World) : Prop := Below w.heap.size w w' ∧ match typM s with
 | .ok t => ∃ v, e = .returned (.tuple #[v, .int .i64 0, .int .i64 0]) ∧ TmV w w' v t
 | .error y => e = .returned (.tuple #[zT, .int .i64 (y.1 : Nat), .int .i64 (y.2 : Nat)])
theorem typR_any (s : ByteArray) (hm : s.size ≤ 4194304) (w : World) (hw : EscW w) : Calls Tryz.prog 25 #[.string s] w (TypR s w) := by
 have hpos : 0 < w.heap.size := hw.pos
 have HE := Hd hw
 have HC := Hd (fun W hW => read_any s hm _ 73 typTop_any (fun _ _ => rfl) W hW)
 clear hw
 unfold RdR at HC
 unfold TypR
 change Hid (∀ W, EscW W → Calls Tryz.prog 70 #[.string s, .func (.func 73) #[] #[]] W fun e w' => Below W.heap.size W w' ∧ match typM s with
  | .ok t => ∃ v, e = .returned (.tuple #[v, .int .i64 0, .int .i64 0]) ∧ TmV W w' v t
  | .error y => e = .returned (.tuple #[zT, .int .i64 (y.1 : Nat), .int .i64 (y.2 : Nat)])) at HC
 generalize typM s = X at *
 have HE1 := Hd (HE.out.below (below_alloc w (.cells #[.int .i64 0, .string ⟨#[]⟩, .string ⟨#[]⟩, .int .i64 0, .slice none 0 0] 24)) hpos)
 go_enter Tryz.func25, Tryz.ntmps25
 cases X with
 | error y =>
  go_wp2_with (go_at_call 70; (with_reducible refine (HC.out _ HE1.out).mono ?_); rintro e w1 ⟨hg, rfl⟩; have HG := Hd hg; have hb := hb_below (hb_new _ _) hg (hb_lt (hb_new _ _)); have HB := Hd hb; have zb := hb_lt hb; obtain ⟨x0, x1, x2, x3, x4, y0, y1, y2, y3, y4⟩ := box5 hb; clear hg hb)
  all_goals
   refine bodyPost_ret (v := .tuple #[zT, .int .i64 (y.1 : Nat), .int .i64 (y.2 : Nat)]) (res_typR rfl rfl rfl (set5w_box HB.out _ _ _ _ _)) rfl ⟨?_, rfl⟩
   exact ((((((below_alloc w _).trans (HG.out.mono Q57)).setCell (Nat.le_refl _) _).setCell (Nat.le_refl _) _).setCell (Nat.le_refl _) _).setCell (Nat.le_refl _) _).setCell (Nat.le_refl _) _
 | ok t =>
  go_wp2_with (go_at_call 70; (with_reducible refine (HC.out _ HE1.out).mono ?_); rintro e w1 ⟨hg, v, rfl, hV⟩; (obtain ⟨k, pk, n, N, q, ln, c, rfl⟩ := hV.shape); have HV := Hd hV; have HG := Hd hg; have hb := hb_below (hb_new _ _) hg (hb_lt (hb_new _ _)); have HB := Hd hb; have zb := hb_lt hb; obtain ⟨x0, x1, x2, x3, x4, y0, y1, y2, y3, y4⟩ := box5 hb; clear hg hb hV)
  all_goals
   refine bodyPost_ret (v := .tuple #[tv k pk n N (.slice q ln c), .int .i64 0, .int .i64 0]) (res_typR rfl rfl rfl (set5w_box HB.out _ _ _ _ _)) rfl ⟨?_, _, rfl, ?_⟩
   · exact ((((((below_alloc w _).trans (HG.out.mono Q57)).setCell (Nat.le_refl _) _).setCell (Nat.le_refl _) _).setCell (Nat.le_refl _) _).setCell (Nat.le_refl _) _).setCell (Nat.le_refl _) _
   · have h1 := HV.out.move (r := w.heap.size) Q57 (((((Rg.refl w.heap.size w1).set 0 (.int .i64 k)).set 1 (.string pk)).set 2 (.string n)).set 3 (.int .i64 N) |>.set 4 (.slice q ln c))
     exact h1.up Q57
theorem LxW.esc9 {w : World} (h : LxW w) : EscW w := h.1
theorem nm_ne {k : Int} {n : ByteArray} (h : RightT ⟨k, n, 0⟩) (hk : k = 1 ∨ k = 2) : n.data.toList ≠ [] := by
 intro e
 have h0 := h.1
 unfold tellT at h0
 rcases hk with rfl | rfl <;> simp [e] at h0
theorem ne_expr (d : Nat) (x : Tm) (h : exprB d x = true) : NmNe x := by
 cases d with
 | zero => cases h
 | succ d =>
  obtain ⟨k, p, n, N, kids⟩ := x
  intro hk
  simp only [exprB] at h
  by_cases h21 : k = 21
  · subst h21
    simp only [Int.reduceEq, if_false, if_true, Bool.and_eq_true] at h
    exact nm_ne (qual_r h.1) (by omega)
  by_cases h24 : k = 24
  · subst h24
    simp only [Int.reduceEq, if_false, if_true, Bool.and_eq_true] at h
    exact nm_ne (qual_r h.1) (by omega)
  exfalso
  rcases hk with rfl | rfl | rfl | rfl | rfl <;> simp at h <;> omega
theorem ne_type (d : Nat) (x : Tm) (h : typeB d x = true) : NmNe x := by
 cases d with
 | zero => cases h
 | succ d =>
  obtain ⟨k, p, n, N, kids⟩ := x
  intro hk
  simp only [typeB] at h
  by_cases h2 : k = 2
  · subst h2
    simp only [Int.reduceEq, if_false, if_true, Bool.and_eq_true] at h
    exact nm_ne (qual_r h.1) (by omega)
  exfalso
  rcases hk with rfl | rfl | rfl | rfl | rfl <;> simp at h <;> omega
theorem ne_pat (d : Nat) (x : Tm) (h : patB d x = true) : NmNe x := by
 cases d with
 | zero => cases h
 | succ d =>
  obtain ⟨k, p, n, N, kids⟩ := x
  intro hk
  simp only [patB] at h
  by_cases h12 : k = 12
  · subst h12
    simp only [Int.reduceEq, if_false, if_true, Bool.and_eq_true] at h
    exact nm_ne (named_r h.1) (by omega)
  by_cases h15 : k = 15
  · subst h15
    simp only [Int.reduceEq, if_false, if_true, Bool.and_eq_true] at h
    exact nm_ne (qual_r h.1) (by omega)
  exfalso
  rcases hk with rfl | rfl | rfl | rfl | rfl <;> simp at h <;> omega
theorem ok_expr {d : Nat} {x : Tm} (hG : Gd d x) (ht : tby d x ≤ 12000) (hB : exprB d x = true) : WfT d x ∧ txt d x ≠ [] ∧ (txt d x).length ≤ 1000000000 := by
 have hw := wf_expr d x hB hG
 have hl := txt_len d x hw
 exact ⟨hw, txt_ne d x hw (ne_expr d x hB), by omega⟩
theorem ok_type {d : Nat} {x : Tm} (hG : Gd d x) (ht : tby d x ≤ 12000) (hB : typeB d x = true) : WfT d x ∧ txt d x ≠ [] ∧ (txt d x).length ≤ 1000000000 := by
 have hw := wf_type d x hB hG
 have hl := txt_len d x hw
 exact ⟨hw, txt_ne d x hw (ne_type d x hB), by omega⟩
theorem ok_pat {d : Nat} {x : Tm} (hG : Gd d x) (ht : tby d x ≤ 12000) (hB : patB d x = true) : WfT d x ∧ txt d x ≠ [] ∧ (txt d x).length ≤ 1000000000 := by
 have hw := wf_pat d x hB hG
 have hl := txt_len d x hw
 exact ⟨hw, txt_ne d x hw (ne_pat d x hB), by omega⟩

def dpB : Nat → Tm → Bool
 | 0, _ => false
 | d + 1, .mk _ _ _ _ ks => ks.all (dpB d)
theorem IsT.fit {w : World} : ∀ (d' : Nat) {d : Nat} {v : Value} {x : Tm}, IsT w d v x → dpB d' x = true → IsT w d' v x := by
 intro d'
 induction d' with
 | zero => intro d v x _ h; cases x; cases h
 | succ d' ih =>
  intro d v x h hf
  obtain ⟨m, k, p, n, N, s, kids, em, rfl, rfl, hp, hn, hk⟩ := h.open
  unfold dpB at hf
  have hall := List.all_eq_true.1 hf
  obtain ⟨q, c, rfl, hm, hr⟩ := hk
  refine IsT.shut hp hn ⟨q, c, rfl, hm, fun i y hy => ?_⟩
  obtain ⟨b, o, k1, p1, n1, N1, s1, e1, e2, e3⟩ := hr i y hy
  exact ⟨b, o, k1, p1, n1, N1, s1, e1, e2, ih e3 (hall y (List.mem_of_getElem? hy))⟩
def xE : Tm := .mk 27 ⟨#[]⟩ ⟨#[]⟩ 0 [.mk 21 ⟨#[]⟩ ⟨#[102]⟩ 0 [], .mk 26 ⟨#[]⟩ ⟨#[120]⟩ 0 [.mk 21 ⟨#[]⟩ ⟨#[120]⟩ 0 []]]
def xT : Tm := .mk 3 ⟨#[]⟩ ⟨#[]⟩ 0 [.mk 3 ⟨#[]⟩ ⟨#[]⟩ 0 [.mk 1 ⟨#[]⟩ ⟨#[97]⟩ 0 [], .mk 1 ⟨#[]⟩ ⟨#[98]⟩ 0 []], .mk 1 ⟨#[]⟩ ⟨#[99]⟩ 0 []]
set_option maxRecDepth 1000000 in
theorem ex_e : exprM ⟨#[102, 32, 40, 40, 102, 117, 110, 32, 120, 32, 45, 62, 32, 40, 120, 41, 41, 41]⟩ = .ok xE := by kernel_rfl
set_option maxRecDepth 1000000 in
theorem ex_t : typM ⟨#[40, 39, 97, 32, 45, 62, 32, 39, 98, 41, 32, 45, 62, 32, 40, 39, 99, 41]⟩ = .ok xT := by kernel_rfl
theorem rt_f : rightB ⟨1, ⟨#[102]⟩, 0⟩ = true := rightB_yes (read_right (l := [102]) (n := 1) Q70 (by decide))
theorem rt_x : rightB ⟨1, ⟨#[120]⟩, 0⟩ = true := rightB_yes (read_right (l := [120]) (n := 1) Q70 (by decide))
theorem rt_a : rightB ⟨3, ⟨#[97]⟩, 0⟩ = true := rightB_yes (read_right (l := [39, 97]) (n := 2) Q70 (by decide))
theorem rt_b : rightB ⟨3, ⟨#[98]⟩, 0⟩ = true := rightB_yes (read_right (l := [39, 98]) (n := 2) Q70 (by decide))
theorem rt_c : rightB ⟨3, ⟨#[99]⟩, 0⟩ = true := rightB_yes (read_right (l := [39, 99]) (n := 2) Q70 (by decide))
theorem em_list : (⟨#[]⟩ : ByteArray).toList = [] := by rw [ByteArray.toList_eq]
theorem xE_B : exprB 4 xE = true := by simp [exprB, xE, bareB, zipB, byF, qualB, namedB, rB, rt_f, rt_x, em_list]
theorem xT_B : typeB 4 xT = true := by simp [typeB, xT, bareB, zipB, byF, qualB, namedB, rB, rt_a, rt_b, rt_c, em_list]
theorem fits0 : Fits ⟨4, ⟨#[]⟩, 0⟩ := by unfold Fits; decide
theorem xE_G : Gd 4 xE := by simp [Gd, xE, fits0]; decide
theorem xT_G : Gd 4 xT := by simp [Gd, xT, fits0]; decide
theorem xE_t : tby 4 xE ≤ 12000 := by decide
theorem xT_t : tby 4 xT ≤ 12000 := by decide
set_option maxRecDepth 1000000 in
theorem xE_x : ofL (txt 4 xE) = ⟨#[102, 32, 40, 102, 117, 110, 32, 120, 32, 45, 62, 32, 120, 41]⟩ := by kernel_rfl
set_option maxRecDepth 1000000 in
theorem xT_x : ofL (txt 4 xT) = ⟨#[40, 39, 97, 32, 45, 62, 32, 39, 98, 41, 32, 45, 62, 32, 39, 99]⟩ := by kernel_rfl
theorem xE_S : NoSl 4 xE := by simp [NoSl, xE]
theorem xT_S : NoSl 4 xT := by simp [NoSl, xT]
theorem no9_any (x : Int) (w : World) : Calls Tryz.prog 18 #[.int .i64 x] w fun e w' => e = .returned (.int .i64 x) ∧ w = w' := by
 go_enter Tryz.func18, Tryz.ntmps18
 go_wp2
 go_ret
 exact ⟨rfl, rfl⟩
theorem exprR_ok {s : ByteArray} {t : Tm} (h : exprM s = .ok t) (hm : s.size ≤ 4194304) (w : World) (hw : EscW w) : Calls Tryz.prog 23 #[.string s] w fun e w' => ∃ k p n N q l c, e = .returned (.tuple #[tv k p n N (.slice q l c), .int .i64 0, .int .i64 0]) ∧ TmV w w' (tv k p n N (.slice q l c)) t ∧ Below w.heap.size w w' := by
 refine (exprR_any s hm w hw).mono ?_
 rintro e w' ⟨hb, h2⟩
 rw [h] at h2
 obtain ⟨v, rfl, hV⟩ := h2
 obtain ⟨k, p, n, N, q, l, c, rfl⟩ := hV.shape
 exact ⟨k, p, n, N, q, l, c, rfl, hV, hb⟩
theorem typR_ok {s : ByteArray} {t : Tm} (h : typM s = .ok t) (hm : s.size ≤ 4194304) (w : World) (hw : EscW w) : Calls Tryz.prog 25 #[.string s] w fun e w' => ∃ k p n N q l c, e = .returned (.tuple #[tv k p n N (.slice q l c), .int .i64 0, .int .i64 0]) ∧ TmV w w' (tv k p n N (.slice q l c)) t ∧ Below w.heap.size w w' := by
 refine (typR_any s hm w hw).mono ?_
 rintro e w' ⟨hb, h2⟩
 rw [h] at h2
 obtain ⟨v, rfl, hV⟩ := h2
 obtain ⟨k, p, n, N, q, l, c, rfl⟩ := hV.shape
 exact ⟨k, p, n, N, q, l, c, rfl, hV, hb⟩
theorem TmV.isT {w w' : World} {v : Value} {t : Tm} (h : TmV w w' v t) : ∃ d, IsT w' d v t := let ⟨d, h⟩ := h; ⟨d, h.isT⟩
theorem tag_of {w w1 : World} {k N : Int} {p n : ByteArray} {s : Value} {K M : Int} {P Q : ByteArray} {l : List Tm} (h : TmV w w1 (tv k p n N s) (.mk K P Q M l)) : k = K := by
 obtain ⟨d, h⟩ := h
 cases d with
 | zero => cases h
 | succ d =>
  obtain ⟨q, c, h1, _⟩ := h
  unfold tv at h1
  cases h1
  rfl
theorem alive_any (w : World) (hw : LxW w) : Calls Tryz.prog 8 #[] w fun e w' => e = .returned (.bool true) ∧ Below w.heap.size w w' := by
 have hpos : 0 < w.heap.size := hw.esc9.pos
 have HE := Hd hw
 have H1 := Hd (fun W hW => exprR_ok ex_e (by decide) W hW)
 have H2 := Hd (fun W hW => typR_ok ex_t (by decide) W hW)
 clear hw
 go_enter Tryz.func8, Tryz.ntmps8
 go_upto_region 2 with (go_at_call 23; (with_reducible refine (H1.out _ HE.out.esc9).mono ?_); rintro e w1 ⟨k1, p1, n1, N1, q1, l1, c1, rfl, hV, hb⟩; obtain rfl := tag_of hV; obtain ⟨dd, hT⟩ := hV.isT; have HV1 := Hd (hT.fit 4 rfl); have HB1 := Hd hb; clear hV hb hT)
 have hk1 := hb_new w1 (.cells #[.int .i64 27, .string p1, .string n1, .int .i64 N1, .slice q1 l1 c1] 24)
 have v1 := HV1.out.below (below_alloc w1 (.cells #[.int .i64 27, .string p1, .string n1, .int .i64 N1, .slice q1 l1 c1] 24))
 have b1 := HB1.out.trans ((below_alloc w1 (.cells #[.int .i64 27, .string p1, .string n1, .int .i64 N1, .slice q1 l1 c1] 24)).mono HB1.out.size)
 generalize hW1 : w1.alloc (.cells #[.int .i64 27, .string p1, .string n1, .int .i64 N1, .slice q1 l1 c1] 24) = W1 at *
 have HC1 := Hd hk1
 have HV1' := Hd v1
 have HB1' := Hd b1
 have HE1 := Hd (HE.out.below b1)
 have z1 := hb_lt hk1
 clear hW1 hk1 v1 b1 HV1 HB1
 go_upto_region 3 with (go_at_call 25; (with_reducible refine (H2.out _ HE1.out.esc9).mono ?_); rintro e w2 ⟨k2, p2, n2, N2, q2, l2, c2, rfl, hV, hb⟩; obtain rfl := tag_of hV; obtain ⟨dd, hT⟩ := hV.isT; have HV2 := Hd (hT.fit 4 rfl); have HB2 := Hd hb; clear hV hb hT)
 have hk2 := hb_new w2 (.cells #[.int .i64 3, .string p2, .string n2, .int .i64 N2, .slice q2 l2 c2] 24)
 have v2 := HV2.out.below (below_alloc w2 (.cells #[.int .i64 3, .string p2, .string n2, .int .i64 N2, .slice q2 l2 c2] 24))
 have b2 := HB2.out.trans ((below_alloc w2 (.cells #[.int .i64 3, .string p2, .string n2, .int .i64 N2, .slice q2 l2 c2] 24)).mono HB2.out.size)
 generalize hW2 : w2.alloc (.cells #[.int .i64 3, .string p2, .string n2, .int .i64 N2, .slice q2 l2 c2] 24) = W2 at *
 have hd1 := hb_below HC1.out b2 (hb_lt HC1.out)
 have HV12 := Hd (HV1'.out.below b2)
 have HV2' := Hd v2
 have b3 := HB1'.out.trans (b2.mono HB1'.out.size)
 have HB2' := Hd b3
 have HE2 := Hd (HE.out.below b3)
 have z2 := hb_lt hk2
 obtain ⟨x0, x1, x2, x3, x4, _⟩ := box5 hd1
 have K2 := Hd hk2
 have u1 := hb_lt hd1
 have C1 : RowKit.Hid (Calls Tryz.prog 13 #[tv 27 p1 n1 N1 (.slice q1 l1 c1)] W2 fun e w' => e = .returned (.string ⟨#[102, 32, 40, 102, 117, 110, 32, 120, 32, 45, 62, 32, 120, 41]⟩) ∧ Below W2.heap.size W2 w') := Hd (by
  have := print13_any 4 27 p1 n1 N1 q1 c1 l1 xE W2 (IsC.of HV12.out xE_S) xE_G HE2.out (ok_expr xE_G xE_t)
  rw [if_pos xE_B, xE_x] at this
  exact this)
 have C2 : RowKit.Hid (∀ W, Below W2.heap.size W2 W → Calls Tryz.prog 9 #[tv 3 p2 n2 N2 (.slice q2 l2 c2)] W fun e w' => e = .returned (.string ⟨#[40, 39, 97, 32, 45, 62, 32, 39, 98, 41, 32, 45, 62, 32, 39, 99]⟩) ∧ Below W.heap.size W w') := Hd (fun W hW => by
  have := print9_any 4 3 p2 n2 N2 q2 c2 l2 xT W (IsC.of (HV2'.out.below hW) xT_S) xT_G (HE2.out.below hW) (ok_type xT_G xT_t)
  rw [if_pos xT_B, xT_x] at this
  exact this)
 clear hW2 hk2 v2 b2 hd1 b3 HV2 HB2
 go_wp2_with (first
  | (go_at_call 18; (with_reducible refine (no9_any _ _).mono ?_); rintro e w4 ⟨rfl, rfl⟩)
  | (go_at_call 13; (with_reducible refine C1.out.mono ?_); rintro e w4 ⟨rfl, hb⟩; have HB4 := Hd hb; have kk2 := hb_below K2.out hb z2; obtain ⟨y0, y1, y2, y3, y4, _⟩ := box5 kk2; have yz := hb_lt kk2; clear kk2 hb)
  | (go_at_call 9; (with_reducible refine (C2.out _ HB4.out).mono ?_); rintro e w5 ⟨rfl, hb⟩; have HB5 := Hd hb; clear hb))
 all_goals
  go_ret
  exact ⟨rfl, HB2'.out.trans ((HB4.out.trans (HB5.out.mono HB4.out.size)).mono HB2'.out.size)⟩
end Go.Proofs.YtmkjalnlldpdcaaGreatDoor
