/- Texts in a row: Jk Jl Jm. -/
import Derived.Test.YthcpmdgdbceeiaaGreatDoorZ24
/- Is it a match's row of Kids? The program's walk. -/
namespace Go.Proofs.YthcpmdgdbceeiaaGreatDoor
open Go.RowKit
set_option linter.unusedSimpArgs false
set_option linter.unusedVariables false
theorem match_no {f11 f13 : Tm → Bool} {kids : List Tm} (h : altB f11 f13 0 kids = false) : matchB f11 f13 kids = false := by
  unfold matchB
  rw [h]
  simp
set_option maxRecDepth 100000 in
set_option maxHeartbeats 8000000 in
theorem isMatch_any (f11 f13 : Tm → Bool) (d : Nat) (kids : List Tm) (h11 : Judge 11 f11 d) (h13 : Judge 13 f13 d) (hG : ∀ x ∈ kids, Gd d x) (s : Value) (w : World) (hw : LxW w) (hk : KidsT w d s kids) :
    Calls Tryz.prog 45 #[s] w (Ans (matchB f11 f13 kids) w) := by
  obtain ⟨q, c, rfl, hm, hr⟩ := hk
  unfold maxLen at hm
  by_cases h3 : kids.length < 3
  · have d1 : decide ((kids.length : Int) < 3) = true := by simp; omega
    have HZ : RowKit.Hid (matchB f11 f13 kids = false) := Lib.hid (by unfold matchB; rw [show decide (3 ≤ kids.length) = false from by simp; omega]; rfl)
    clear h11 h13 hr h3 hG hw
    go_enter Tryz.func45, Tryz.ntmps45
    go_wp2
    go_ret
    exact ⟨ret_bool HZ.out.symm, Below.refl _ _⟩
  have d1 : decide ((kids.length : Int) < 3) = false := by simp; omega
  by_cases hev : kids.length % 2 = 0
  · have d2 : (((kids.length : Int) % 2) == 0) = true := by rw [beq_iff_eq]; omega
    have HZ : RowKit.Hid (matchB f11 f13 kids = false) := Lib.hid (by unfold matchB; rw [show (kids.length % 2 == 1) = false from by rw [beq_eq_false_iff_ne]; omega]; simp)
    clear h11 h13 hr h3 hG hw hev
    go_enter Tryz.func45, Tryz.ntmps45
    go_wp2
    go_ret
    exact ⟨ret_bool HZ.out.symm, Below.refl _ _⟩
  have d2 : (((kids.length : Int) % 2) == 0) = false := by rw [beq_eq_false_iff_ne]; omega
  have HLE := Lib.hid h3
  have HOD := Lib.hid hev
  clear h3 hev
  have HR := Lib.hid hr
  unfold Judge at h11 h13
  have H11 := Lib.hid h11
  have H13 := Lib.hid h13
  have HW := Lib.hid hw
  have HGD := Lib.hid hG
  clear hr h11 h13 hw hG
  go_enter Tryz.func45, Tryz.ntmps45
  go_wp2
  go_loopw [17] (fun i wr => ∃ k : Nat, k ≤ kids.length ∧ i = .int .i64 k ∧ (∀ (j : Nat) x, j < k → kids[j]? = some x → altAt f11 f13 j x = true) ∧ Below w.heap.size w wr) (fun i _ => kids.length - (intOf i).toNat)
  case atStart => exact ⟨0, Nat.zero_le _, rfl, (fun j x hj => absurd hj (by omega)), Below.refl _ _⟩
  case round =>
    obtain ⟨k, hk, rfl, hP, hB⟩ := hrel
    have hzr := hB.size
    have HB := Lib.hid hB
    have HP := Lib.hid hP
    clear hP
    by_cases hlt : k < kids.length
    · have hx1 := List.getElem?_eq_getElem hlt
      generalize kids[k] = x at *
      obtain ⟨b1, o1, k1', p1', n1', N1', s1', hq1, ha1, ht1⟩ := HR.out k x hx1
      subst hq1
      obtain ⟨q3, l3, c3, hs3⟩ := ht1.spell
      subst hs3
      obtain ⟨x0, x1, x2, x3, x4⟩ := ha1.below hB ha1.lt
      have hxm : x ∈ kids := List.mem_of_getElem? hx1
      have HX := Lib.hid hx1
      have hki : (k : Int) < (kids.length : Int) := by omega
      have hpar : k % 2 = 1 ∨ k % 2 = 0 := by omega
      rcases hpar with hpr | hpr
      · have HPL := Lib.hid (fun W => (place_any k W).mono fun e w' (h : _ ∧ _) => (⟨by rw [h.1, show (k % 2 == 1) = true from by rw [beq_iff_eq]; omega], h.2⟩ : e = .returned (.bool true) ∧ W = w'))
        have HC : RowKit.Hid (∀ W, Below wr.heap.size wr W → Calls Tryz.prog 11 #[tv k1' p1' n1' N1' (.slice q3 l3 c3)] W (Ans (f11 x) W)) :=
          Lib.hid fun W hW => H11.out _ x W ((ht1.below hB).below hW) (HGD.out x hxm) ((HW.out.below hB).below hW)
        have HAL : RowKit.Hid (altAt f11 f13 k x = f11 x) := Lib.hid (by unfold altAt; rw [if_pos (by omega)])
        clear hx1 ht1 ha1 hB hxm hpr
        cases hf : f11 x
        · have HF := Lib.hid hf
          rw [hf] at HC
          clear hf
          go_wp2_with (first
            | (go_at_call 53; (with_reducible refine (HPL.out _).mono ?_); rintro e w3 ⟨rfl, rfl⟩)
            | (go_at_call 11; ((with_reducible refine (HC.out _ (below_alloc wr _)).mono ?_); rintro e w3 ⟨rfl, hb⟩)))
          have HQ := Lib.hid (HB.out.trans (((below_alloc wr _).trans (hb.mono (by simp))).mono hzr))
          go_ret
          exact ⟨ret_bool (match_no (alt_no (m := 0) HX.out (by rw [Nat.zero_add, HAL.out]; exact HF.out))).symm, HQ.out⟩
        · have HF := Lib.hid hf
          rw [hf] at HC
          clear hf
          go_wp2_with (first
            | (go_at_call 53; (with_reducible refine (HPL.out _).mono ?_); rintro e w3 ⟨rfl, rfl⟩)
            | (go_at_call 11; ((with_reducible refine (HC.out _ (below_alloc wr _)).mono ?_); rintro e w3 ⟨rfl, hb⟩)))
          have HQ := Lib.hid (HB.out.trans (((below_alloc wr _).trans (hb.mono (by simp))).mono hzr))
          go_roundw
          case rel => exact ⟨k + 1, by omega, by go_num, alt_next HX.out HP.out (HAL.out.trans HF.out), HQ.out⟩
          case measure => simp [intOf]; omega
      · have HPL := Lib.hid (fun W => (place_any k W).mono fun e w' (h : _ ∧ _) => (⟨by rw [h.1, show (k % 2 == 1) = false from by rw [beq_eq_false_iff_ne]; omega], h.2⟩ : e = .returned (.bool false) ∧ W = w'))
        have HC : RowKit.Hid (∀ W, Below wr.heap.size wr W → Calls Tryz.prog 13 #[tv k1' p1' n1' N1' (.slice q3 l3 c3)] W (Ans (f13 x) W)) :=
          Lib.hid fun W hW => H13.out _ x W ((ht1.below hB).below hW) (HGD.out x hxm) ((HW.out.below hB).below hW)
        have HAL : RowKit.Hid (altAt f11 f13 k x = f13 x) := Lib.hid (by unfold altAt; rw [if_neg (by omega)])
        clear hx1 ht1 ha1 hB hxm hpr
        cases hf : f13 x
        · have HF := Lib.hid hf
          rw [hf] at HC
          clear hf
          go_wp2_with (first
            | (go_at_call 53; (with_reducible refine (HPL.out _).mono ?_); rintro e w3 ⟨rfl, rfl⟩)
            | (go_at_call 13; ((with_reducible refine (HC.out _ (below_alloc wr _)).mono ?_); rintro e w3 ⟨rfl, hb⟩)))
          have HQ := Lib.hid (HB.out.trans (((below_alloc wr _).trans (hb.mono (by simp))).mono hzr))
          go_ret
          exact ⟨ret_bool (match_no (alt_no (m := 0) HX.out (by rw [Nat.zero_add, HAL.out]; exact HF.out))).symm, HQ.out⟩
        · have HF := Lib.hid hf
          rw [hf] at HC
          clear hf
          go_wp2_with (first
            | (go_at_call 53; (with_reducible refine (HPL.out _).mono ?_); rintro e w3 ⟨rfl, rfl⟩)
            | (go_at_call 13; ((with_reducible refine (HC.out _ (below_alloc wr _)).mono ?_); rintro e w3 ⟨rfl, hb⟩)))
          have HQ := Lib.hid (HB.out.trans (((below_alloc wr _).trans (hb.mono (by simp))).mono hzr))
          go_roundw
          case rel => exact ⟨k + 1, by omega, by go_num, alt_next HX.out HP.out (HAL.out.trans HF.out), HQ.out⟩
          case measure => simp [intOf]; omega
    · obtain rfl : k = kids.length := by omega
      go_wp2
      go_ret
      refine ⟨ret_bool ?_, HB.out⟩
      unfold matchB
      rw [alt_yes (m := 0) (fun i x hx => by rw [Nat.zero_add]; exact HP.out i x (List.getElem?_eq_some_iff.1 hx).1 hx), show decide (3 ≤ kids.length) = true from by simp; have := HLE.out; omega, show (kids.length % 2 == 1) = true from by rw [beq_iff_eq]; have := HOD.out; omega]
      rfl
end Go.Proofs.YthcpmdgdbceeiaaGreatDoor
/- Is it an expression? As the program judges. -/
namespace Go.Proofs.YthcpmdgdbceeiaaGreatDoor
open Go.RowKit
set_option linter.unusedSimpArgs false
set_option linter.unusedVariables false
noncomputable def exprB : Nat → Tm → Bool
  | 0, _ => false
  | d + 1, .mk k p n N kids =>
    if k = 21 then qualB 1 p n N && (kids.length == 0)
    else if k = 22 then numB p n N && (kids.length == 0)
    else if k = 23 then namedB 5 p n N && (kids.length == 0)
    else if k = 24 then qualB 2 p n N && kids.all (exprB d)
    else if k = 25 then tupB (exprB d) p n N kids
    else if k = 26 then namedB 1 p n N && zipB (typeB d) (exprB d) [13] kids
    else if k = 27 then bareB p n N && zipB (typeB d) (exprB d) [13, 13] kids
    else if k = 28 then letB (typeB d) (exprB d) p n N kids
    else if k = 29 then bareB p n N && matchB (patB d) (exprB d) kids
    else if k = 30 then bareB p n N && zipB (typeB d) (exprB d) [13, 9] kids
    else false
set_option maxRecDepth 100000 in
set_option maxHeartbeats 8000000 in
theorem expr_next (d : Nat) (hd : Judge 13 (exprB d) d) : Judge 13 (exprB (d + 1)) (d + 1) := by
  intro v x w hT hG hw
  obtain ⟨d1, k, p, n, N, s, kids, e1, rfl, rfl, _, _, hk⟩ := hT.open
  obtain rfl : d = d1 := by omega
  obtain ⟨q, c, rfl, hm, hr⟩ := hk
  have hk : KidsT w d (.slice q kids.length c) kids := ⟨q, c, rfl, hm, hr⟩
  obtain ⟨hp, hn, hN', hg⟩ := hG
  have hG : True := trivial
  unfold maxLen at hm
  clear hT e1 hr
  by_cases hk21 : k = 21
  · subst hk21
    rw [show exprB (d + 1) (.mk 21 p n N kids) = (qualB 1 p n N && ((kids.length == 0))) from by simp [exprB]]
    have Hb1 := Lib.hid (fun W hW => qualified_any 1 21 p n N (by omega) (by omega) q kids.length c W hW)
    have Hb2 := Lib.hid (fun W => isOfNil_any q kids.length c (by omega) W)
    have hnew := hb_new w (.cells #[.int .i64 21, .string p, .string n, .int .i64 N, .slice q kids.length c] 24)
    have K0 := Lib.hid hnew
    have LX0 := Lib.hid (fun o => hw.under rfl (below_alloc w o))
    have HK0 := Lib.hid (hk.below (below_alloc w (.cells #[.int .i64 21, .string p, .string n, .int .i64 N, .slice q kids.length c] 24)))
    generalize qualB 1 p n N = b1 at *
    generalize (kids.length == 0) = b2 at *
    clear hw hk hG hg hp hn hN' hd hnew
    cases b1
    · go_enter Tryz.func13, Tryz.ntmps13
      go_wp2_with (go_at_call 31; ((with_reducible refine (Hb1.out _ (LX0.out _)).mono ?_); rintro e w1 ⟨rfl, hb⟩; have HBB1 := Lib.hid ((below_alloc w (.cells #[.int .i64 21, .string p, .string n, .int .i64 N, .slice q kids.length c] 24)).trans (hb.mono (by simp))); have kk1 := hb_below K0.out hb (by simp); have LX1 := Lib.hid ((LX0.out _).under rfl hb); have HK1 := Lib.hid (HK0.out.below hb); have K1 := Lib.hid kk1; have r1_0 := hb_at kk1 0 rfl; have r1_1 := hb_at kk1 1 rfl; have r1_2 := hb_at kk1 2 rfl; have r1_3 := hb_at kk1 3 rfl; have r1_4 := hb_at kk1 4 rfl; clear hb kk1))
      go_ret
      exact ⟨rfl, HBB1.out⟩
    · skip
      go_enter Tryz.func13, Tryz.ntmps13
      go_wp2_with (first
        | (go_at_call 31; ((with_reducible refine (Hb1.out _ (LX0.out _)).mono ?_); rintro e w1 ⟨rfl, hb⟩; have HBB1 := Lib.hid ((below_alloc w (.cells #[.int .i64 21, .string p, .string n, .int .i64 N, .slice q kids.length c] 24)).trans (hb.mono (by simp))); have kk1 := hb_below K0.out hb (by simp); have LX1 := Lib.hid ((LX0.out _).under rfl hb); have HK1 := Lib.hid (HK0.out.below hb); have K1 := Lib.hid kk1; have r1_0 := hb_at kk1 0 rfl; have r1_1 := hb_at kk1 1 rfl; have r1_2 := hb_at kk1 2 rfl; have r1_3 := hb_at kk1 3 rfl; have r1_4 := hb_at kk1 4 rfl; clear hb kk1))
        | (go_at_call 30; ((with_reducible refine (Hb2.out _).mono ?_); rintro e w2 ⟨rfl, hb⟩; have HBB2 := Lib.hid (HBB1.out.trans (hb.mono HBB1.out.size)); have kk2 := hb_below K1.out hb (hb_lt K1.out); have LX2 := Lib.hid (LX1.out.under rfl hb); have HK2 := Lib.hid (HK1.out.below hb); have K2 := Lib.hid kk2; have r2_0 := hb_at kk2 0 rfl; have r2_1 := hb_at kk2 1 rfl; have r2_2 := hb_at kk2 2 rfl; have r2_3 := hb_at kk2 3 rfl; have r2_4 := hb_at kk2 4 rfl; clear hb kk2)))
      go_ret
      exact ⟨rfl, HBB2.out⟩
  have d21 : (k == 21) = false := by simpa using hk21
  by_cases hk22 : k = 22
  · subst hk22
    rw [show exprB (d + 1) (.mk 22 p n N kids) = (numB p n N && ((kids.length == 0))) from by simp [exprB]]
    have Hb1 := Lib.hid (fun W hW => isNumber_any 22 p n N hN' q kids.length c W hW)
    have Hb2 := Lib.hid (fun W => isOfNil_any q kids.length c (by omega) W)
    have hnew := hb_new w (.cells #[.int .i64 22, .string p, .string n, .int .i64 N, .slice q kids.length c] 24)
    have K0 := Lib.hid hnew
    have LX0 := Lib.hid (fun o => hw.under rfl (below_alloc w o))
    have HK0 := Lib.hid (hk.below (below_alloc w (.cells #[.int .i64 22, .string p, .string n, .int .i64 N, .slice q kids.length c] 24)))
    generalize numB p n N = b1 at *
    generalize (kids.length == 0) = b2 at *
    clear hw hk hG hg hp hn hN' hd hnew
    cases b1
    · go_enter Tryz.func13, Tryz.ntmps13
      go_wp2_with (go_at_call 40; ((with_reducible refine (Hb1.out _ (LX0.out _)).mono ?_); rintro e w1 ⟨rfl, hb⟩; have HBB1 := Lib.hid ((below_alloc w (.cells #[.int .i64 22, .string p, .string n, .int .i64 N, .slice q kids.length c] 24)).trans (hb.mono (by simp))); have kk1 := hb_below K0.out hb (by simp); have LX1 := Lib.hid ((LX0.out _).under rfl hb); have HK1 := Lib.hid (HK0.out.below hb); have K1 := Lib.hid kk1; have r1_0 := hb_at kk1 0 rfl; have r1_1 := hb_at kk1 1 rfl; have r1_2 := hb_at kk1 2 rfl; have r1_3 := hb_at kk1 3 rfl; have r1_4 := hb_at kk1 4 rfl; clear hb kk1))
      go_ret
      exact ⟨rfl, HBB1.out⟩
    · skip
      go_enter Tryz.func13, Tryz.ntmps13
      go_wp2_with (first
        | (go_at_call 40; ((with_reducible refine (Hb1.out _ (LX0.out _)).mono ?_); rintro e w1 ⟨rfl, hb⟩; have HBB1 := Lib.hid ((below_alloc w (.cells #[.int .i64 22, .string p, .string n, .int .i64 N, .slice q kids.length c] 24)).trans (hb.mono (by simp))); have kk1 := hb_below K0.out hb (by simp); have LX1 := Lib.hid ((LX0.out _).under rfl hb); have HK1 := Lib.hid (HK0.out.below hb); have K1 := Lib.hid kk1; have r1_0 := hb_at kk1 0 rfl; have r1_1 := hb_at kk1 1 rfl; have r1_2 := hb_at kk1 2 rfl; have r1_3 := hb_at kk1 3 rfl; have r1_4 := hb_at kk1 4 rfl; clear hb kk1))
        | (go_at_call 30; ((with_reducible refine (Hb2.out _).mono ?_); rintro e w2 ⟨rfl, hb⟩; have HBB2 := Lib.hid (HBB1.out.trans (hb.mono HBB1.out.size)); have kk2 := hb_below K1.out hb (hb_lt K1.out); have LX2 := Lib.hid (LX1.out.under rfl hb); have HK2 := Lib.hid (HK1.out.below hb); have K2 := Lib.hid kk2; have r2_0 := hb_at kk2 0 rfl; have r2_1 := hb_at kk2 1 rfl; have r2_2 := hb_at kk2 2 rfl; have r2_3 := hb_at kk2 3 rfl; have r2_4 := hb_at kk2 4 rfl; clear hb kk2)))
      go_ret
      exact ⟨rfl, HBB2.out⟩
  have d22 : (k == 22) = false := by simpa using hk22
  by_cases hk23 : k = 23
  · subst hk23
    rw [show exprB (d + 1) (.mk 23 p n N kids) = (namedB 5 p n N && ((kids.length == 0))) from by simp [exprB]]
    have Hb1 := Lib.hid (fun W hW => named_any 5 23 p n N (by omega) (by omega) q kids.length c W hW)
    have Hb2 := Lib.hid (fun W => isOfNil_any q kids.length c (by omega) W)
    have hnew := hb_new w (.cells #[.int .i64 23, .string p, .string n, .int .i64 N, .slice q kids.length c] 24)
    have K0 := Lib.hid hnew
    have LX0 := Lib.hid (fun o => hw.under rfl (below_alloc w o))
    have HK0 := Lib.hid (hk.below (below_alloc w (.cells #[.int .i64 23, .string p, .string n, .int .i64 N, .slice q kids.length c] 24)))
    generalize namedB 5 p n N = b1 at *
    generalize (kids.length == 0) = b2 at *
    clear hw hk hG hg hp hn hN' hd hnew
    cases b1
    · go_enter Tryz.func13, Tryz.ntmps13
      go_wp2_with (go_at_call 29; ((with_reducible refine (Hb1.out _ (LX0.out _)).mono ?_); rintro e w1 ⟨rfl, hb⟩; have HBB1 := Lib.hid ((below_alloc w (.cells #[.int .i64 23, .string p, .string n, .int .i64 N, .slice q kids.length c] 24)).trans (hb.mono (by simp))); have kk1 := hb_below K0.out hb (by simp); have LX1 := Lib.hid ((LX0.out _).under rfl hb); have HK1 := Lib.hid (HK0.out.below hb); have K1 := Lib.hid kk1; have r1_0 := hb_at kk1 0 rfl; have r1_1 := hb_at kk1 1 rfl; have r1_2 := hb_at kk1 2 rfl; have r1_3 := hb_at kk1 3 rfl; have r1_4 := hb_at kk1 4 rfl; clear hb kk1))
      go_ret
      exact ⟨rfl, HBB1.out⟩
    · skip
      go_enter Tryz.func13, Tryz.ntmps13
      go_wp2_with (first
        | (go_at_call 29; ((with_reducible refine (Hb1.out _ (LX0.out _)).mono ?_); rintro e w1 ⟨rfl, hb⟩; have HBB1 := Lib.hid ((below_alloc w (.cells #[.int .i64 23, .string p, .string n, .int .i64 N, .slice q kids.length c] 24)).trans (hb.mono (by simp))); have kk1 := hb_below K0.out hb (by simp); have LX1 := Lib.hid ((LX0.out _).under rfl hb); have HK1 := Lib.hid (HK0.out.below hb); have K1 := Lib.hid kk1; have r1_0 := hb_at kk1 0 rfl; have r1_1 := hb_at kk1 1 rfl; have r1_2 := hb_at kk1 2 rfl; have r1_3 := hb_at kk1 3 rfl; have r1_4 := hb_at kk1 4 rfl; clear hb kk1))
        | (go_at_call 30; ((with_reducible refine (Hb2.out _).mono ?_); rintro e w2 ⟨rfl, hb⟩; have HBB2 := Lib.hid (HBB1.out.trans (hb.mono HBB1.out.size)); have kk2 := hb_below K1.out hb (hb_lt K1.out); have LX2 := Lib.hid (LX1.out.under rfl hb); have HK2 := Lib.hid (HK1.out.below hb); have K2 := Lib.hid kk2; have r2_0 := hb_at kk2 0 rfl; have r2_1 := hb_at kk2 1 rfl; have r2_2 := hb_at kk2 2 rfl; have r2_3 := hb_at kk2 3 rfl; have r2_4 := hb_at kk2 4 rfl; clear hb kk2)))
      go_ret
      exact ⟨rfl, HBB2.out⟩
  have d23 : (k == 23) = false := by simpa using hk23
  by_cases hk24 : k = 24
  · subst hk24
    rw [show exprB (d + 1) (.mk 24 p n N kids) = (qualB 2 p n N && (kids.all (exprB d))) from by simp [exprB]]
    have Hb1 := Lib.hid (fun W hW => qualified_any 2 24 p n N (by omega) (by omega) q kids.length c W hW)
    have Hb2 := Lib.hid (fun W hW hk => areAll_any13 (exprB d) d kids hd hg (.slice q kids.length c) W hW hk)
    have hnew := hb_new w (.cells #[.int .i64 24, .string p, .string n, .int .i64 N, .slice q kids.length c] 24)
    have K0 := Lib.hid hnew
    have LX0 := Lib.hid (fun o => hw.under rfl (below_alloc w o))
    have HK0 := Lib.hid (hk.below (below_alloc w (.cells #[.int .i64 24, .string p, .string n, .int .i64 N, .slice q kids.length c] 24)))
    generalize qualB 2 p n N = b1 at *
    generalize kids.all (exprB d) = b2 at *
    clear hw hk hG hg hp hn hN' hd hnew
    cases b1
    · go_enter Tryz.func13, Tryz.ntmps13
      go_wp2_with (go_at_call 31; ((with_reducible refine (Hb1.out _ (LX0.out _)).mono ?_); rintro e w1 ⟨rfl, hb⟩; have HBB1 := Lib.hid ((below_alloc w (.cells #[.int .i64 24, .string p, .string n, .int .i64 N, .slice q kids.length c] 24)).trans (hb.mono (by simp))); have kk1 := hb_below K0.out hb (by simp); have LX1 := Lib.hid ((LX0.out _).under rfl hb); have HK1 := Lib.hid (HK0.out.below hb); have K1 := Lib.hid kk1; have r1_0 := hb_at kk1 0 rfl; have r1_1 := hb_at kk1 1 rfl; have r1_2 := hb_at kk1 2 rfl; have r1_3 := hb_at kk1 3 rfl; have r1_4 := hb_at kk1 4 rfl; clear hb kk1))
      go_ret
      exact ⟨rfl, HBB1.out⟩
    · skip
      go_enter Tryz.func13, Tryz.ntmps13
      go_wp2_with (first
        | (go_at_call 31; ((with_reducible refine (Hb1.out _ (LX0.out _)).mono ?_); rintro e w1 ⟨rfl, hb⟩; have HBB1 := Lib.hid ((below_alloc w (.cells #[.int .i64 24, .string p, .string n, .int .i64 N, .slice q kids.length c] 24)).trans (hb.mono (by simp))); have kk1 := hb_below K0.out hb (by simp); have LX1 := Lib.hid ((LX0.out _).under rfl hb); have HK1 := Lib.hid (HK0.out.below hb); have K1 := Lib.hid kk1; have r1_0 := hb_at kk1 0 rfl; have r1_1 := hb_at kk1 1 rfl; have r1_2 := hb_at kk1 2 rfl; have r1_3 := hb_at kk1 3 rfl; have r1_4 := hb_at kk1 4 rfl; clear hb kk1))
        | (go_at_call 32; ((with_reducible refine (Hb2.out _ LX1.out HK1.out).mono ?_); rintro e w2 ⟨rfl, hb⟩; have HBB2 := Lib.hid (HBB1.out.trans (hb.mono HBB1.out.size)); have kk2 := hb_below K1.out hb (hb_lt K1.out); have LX2 := Lib.hid (LX1.out.under rfl hb); have HK2 := Lib.hid (HK1.out.below hb); have K2 := Lib.hid kk2; have r2_0 := hb_at kk2 0 rfl; have r2_1 := hb_at kk2 1 rfl; have r2_2 := hb_at kk2 2 rfl; have r2_3 := hb_at kk2 3 rfl; have r2_4 := hb_at kk2 4 rfl; clear hb kk2)))
      go_ret
      exact ⟨rfl, HBB2.out⟩
  have d24 : (k == 24) = false := by simpa using hk24
  by_cases hk25 : k = 25
  · subst hk25
    rw [show exprB (d + 1) (.mk 25 p n N kids) = (tupB (exprB d) p n N kids) from by simp [exprB]]
    have Hb1 := Lib.hid (fun W hW hk => isTuple_any13 (exprB d) d 25 p n N q c kids hd hg W hW hk)
    have hnew := hb_new w (.cells #[.int .i64 25, .string p, .string n, .int .i64 N, .slice q kids.length c] 24)
    have K0 := Lib.hid hnew
    have LX0 := Lib.hid (fun o => hw.under rfl (below_alloc w o))
    have HK0 := Lib.hid (hk.below (below_alloc w (.cells #[.int .i64 25, .string p, .string n, .int .i64 N, .slice q kids.length c] 24)))
    generalize tupB (exprB d) p n N kids = b1 at *
    clear hw hk hG hg hp hn hN' hd hnew
    go_enter Tryz.func13, Tryz.ntmps13
    go_wp2_with (go_at_call 34; ((with_reducible refine (Hb1.out _ (LX0.out _) HK0.out).mono ?_); rintro e w1 ⟨rfl, hb⟩; have HBB1 := Lib.hid ((below_alloc w (.cells #[.int .i64 25, .string p, .string n, .int .i64 N, .slice q kids.length c] 24)).trans (hb.mono (by simp))); have kk1 := hb_below K0.out hb (by simp); have LX1 := Lib.hid ((LX0.out _).under rfl hb); have HK1 := Lib.hid (HK0.out.below hb); have K1 := Lib.hid kk1; have r1_0 := hb_at kk1 0 rfl; have r1_1 := hb_at kk1 1 rfl; have r1_2 := hb_at kk1 2 rfl; have r1_3 := hb_at kk1 3 rfl; have r1_4 := hb_at kk1 4 rfl; clear hb kk1))
    go_ret
    exact ⟨rfl, HBB1.out⟩
  have d25 : (k == 25) = false := by simpa using hk25
  by_cases hk26 : k = 26
  · subst hk26
    rw [show exprB (d + 1) (.mk 26 p n N kids) = (namedB 1 p n N && (zipB (typeB d) (exprB d) [13] kids)) from by simp [exprB]]
    have Hb1 := Lib.hid (fun W hW => named_any 1 26 p n N (by omega) (by omega) q kids.length c W hW)
    have Hb2 : RowKit.Hid (∀ g W, LxW W → KidsT W d (.slice q kids.length c) kids → (∀ j K, [13][j]? = some K → W.cell? ⟨g, j, none⟩ = some (.func (.func K) #[] #[])) → g < W.heap.size → Calls Tryz.prog 30 #[.slice q kids.length c, .slice (some ⟨g, 0, none⟩) 1 1] W (Ans (zipB (typeB d) (exprB d) [13] kids) W)) := Lib.hid (fun g W hW hk hgc hgl => isOf_any (typeB d) (exprB d) [13] (by simp) (by decide) d kids (fun _ => type_any d) (fun _ => hd) hg (.slice q kids.length c) g W hW hk hgc hgl)
    have hnew := hb_new w (.cells #[.int .i64 26, .string p, .string n, .int .i64 N, .slice q kids.length c] 24)
    have K0 := Lib.hid hnew
    have LX0 := Lib.hid (fun o => hw.under rfl (below_alloc w o))
    have HK0 := Lib.hid (hk.below (below_alloc w (.cells #[.int .i64 26, .string p, .string n, .int .i64 N, .slice q kids.length c] 24)))
    generalize namedB 1 p n N = b1 at *
    generalize zipB (typeB d) (exprB d) [13] kids = b2 at *
    clear hw hk hG hg hp hn hN' hd hnew
    cases b1
    · go_enter Tryz.func13, Tryz.ntmps13
      go_wp2_with (go_at_call 29; ((with_reducible refine (Hb1.out _ (LX0.out _)).mono ?_); rintro e w1 ⟨rfl, hb⟩; have HBB1 := Lib.hid ((below_alloc w (.cells #[.int .i64 26, .string p, .string n, .int .i64 N, .slice q kids.length c] 24)).trans (hb.mono (by simp))); have kk1 := hb_below K0.out hb (by simp); have LX1 := Lib.hid ((LX0.out _).under rfl hb); have HK1 := Lib.hid (HK0.out.below hb); have K1 := Lib.hid kk1; have r1_0 := hb_at kk1 0 rfl; have r1_1 := hb_at kk1 1 rfl; have r1_2 := hb_at kk1 2 rfl; have r1_3 := hb_at kk1 3 rfl; have r1_4 := hb_at kk1 4 rfl; clear hb kk1))
      go_ret
      exact ⟨rfl, HBB1.out⟩
    · skip
      go_enter Tryz.func13, Tryz.ntmps13
      go_wp2_with (first
        | (go_at_call 29; ((with_reducible refine (Hb1.out _ (LX0.out _)).mono ?_); rintro e w1 ⟨rfl, hb⟩; have HBB1 := Lib.hid ((below_alloc w (.cells #[.int .i64 26, .string p, .string n, .int .i64 N, .slice q kids.length c] 24)).trans (hb.mono (by simp))); have kk1 := hb_below K0.out hb (by simp); have LX1 := Lib.hid ((LX0.out _).under rfl hb); have HK1 := Lib.hid (HK0.out.below hb); have K1 := Lib.hid kk1; have r1_0 := hb_at kk1 0 rfl; have r1_1 := hb_at kk1 1 rfl; have r1_2 := hb_at kk1 2 rfl; have r1_3 := hb_at kk1 3 rfl; have r1_4 := hb_at kk1 4 rfl; clear hb kk1))
        | (go_at_call 30; ((with_reducible refine (Hb2.out _ _ (LX1.out.under rfl (below_alloc _ _)) (HK1.out.below (below_alloc _ _)) (one_fun _ 13 _) (by simp)).mono ?_); rintro e w2 ⟨rfl, hb⟩; have HBB2 := Lib.hid ((HBB1.out.alloc HBB1.out.size _).trans (hb.mono (by have := HBB1.out.size; simp; omega))); clear hb)))
      go_ret
      exact ⟨rfl, HBB2.out⟩
  have d26 : (k == 26) = false := by simpa using hk26
  by_cases hk27 : k = 27
  · subst hk27
    rw [show exprB (d + 1) (.mk 27 p n N kids) = (bareB p n N && (zipB (typeB d) (exprB d) [13, 13] kids)) from by simp [exprB]]
    have Hb1 := Lib.hid (fun W => bare_any 27 p n N q kids.length c W)
    have Hb2 : RowKit.Hid (∀ g W, LxW W → KidsT W d (.slice q kids.length c) kids → (∀ j K, [13, 13][j]? = some K → W.cell? ⟨g, j, none⟩ = some (.func (.func K) #[] #[])) → g < W.heap.size → Calls Tryz.prog 30 #[.slice q kids.length c, .slice (some ⟨g, 0, none⟩) 2 2] W (Ans (zipB (typeB d) (exprB d) [13, 13] kids) W)) := Lib.hid (fun g W hW hk hgc hgl => isOf_any (typeB d) (exprB d) [13, 13] (by simp) (by decide) d kids (fun _ => type_any d) (fun _ => hd) hg (.slice q kids.length c) g W hW hk hgc hgl)
    have hnew := hb_new w (.cells #[.int .i64 27, .string p, .string n, .int .i64 N, .slice q kids.length c] 24)
    have K0 := Lib.hid hnew
    have LX0 := Lib.hid (fun o => hw.under rfl (below_alloc w o))
    have HK0 := Lib.hid (hk.below (below_alloc w (.cells #[.int .i64 27, .string p, .string n, .int .i64 N, .slice q kids.length c] 24)))
    generalize bareB p n N = b1 at *
    generalize zipB (typeB d) (exprB d) [13, 13] kids = b2 at *
    clear hw hk hG hg hp hn hN' hd hnew
    cases b1
    · go_enter Tryz.func13, Tryz.ntmps13
      go_wp2_with (go_at_call 33; ((with_reducible refine (Hb1.out _).mono ?_); rintro e w1 ⟨rfl, hb⟩; have HBB1 := Lib.hid ((below_alloc w (.cells #[.int .i64 27, .string p, .string n, .int .i64 N, .slice q kids.length c] 24)).trans (hb.mono (by simp))); have kk1 := hb_below K0.out hb (by simp); have LX1 := Lib.hid ((LX0.out _).under rfl hb); have HK1 := Lib.hid (HK0.out.below hb); have K1 := Lib.hid kk1; have r1_0 := hb_at kk1 0 rfl; have r1_1 := hb_at kk1 1 rfl; have r1_2 := hb_at kk1 2 rfl; have r1_3 := hb_at kk1 3 rfl; have r1_4 := hb_at kk1 4 rfl; clear hb kk1))
      go_ret
      exact ⟨rfl, HBB1.out⟩
    · skip
      go_enter Tryz.func13, Tryz.ntmps13
      go_wp2_with (first
        | (go_at_call 33; ((with_reducible refine (Hb1.out _).mono ?_); rintro e w1 ⟨rfl, hb⟩; have HBB1 := Lib.hid ((below_alloc w (.cells #[.int .i64 27, .string p, .string n, .int .i64 N, .slice q kids.length c] 24)).trans (hb.mono (by simp))); have kk1 := hb_below K0.out hb (by simp); have LX1 := Lib.hid ((LX0.out _).under rfl hb); have HK1 := Lib.hid (HK0.out.below hb); have K1 := Lib.hid kk1; have r1_0 := hb_at kk1 0 rfl; have r1_1 := hb_at kk1 1 rfl; have r1_2 := hb_at kk1 2 rfl; have r1_3 := hb_at kk1 3 rfl; have r1_4 := hb_at kk1 4 rfl; clear hb kk1))
        | (go_at_call 30; ((with_reducible refine (Hb2.out _ _ (LX1.out.under rfl (below_alloc _ _)) (HK1.out.below (below_alloc _ _)) (two_funs _ 13 13 _) (by simp)).mono ?_); rintro e w2 ⟨rfl, hb⟩; have HBB2 := Lib.hid ((HBB1.out.alloc HBB1.out.size _).trans (hb.mono (by have := HBB1.out.size; simp; omega))); clear hb)))
      go_ret
      exact ⟨rfl, HBB2.out⟩
  have d27 : (k == 27) = false := by simpa using hk27
  by_cases hk28 : k = 28
  · subst hk28
    rw [show exprB (d + 1) (.mk 28 p n N kids) = (letB (typeB d) (exprB d) p n N kids) from by simp [exprB]]
    have Hb1 := Lib.hid (fun W hW hk => isLet_any (typeB d) (exprB d) d 28 p n N q c kids hp hn (type_any d) hd hg W hW hk)
    have hnew := hb_new w (.cells #[.int .i64 28, .string p, .string n, .int .i64 N, .slice q kids.length c] 24)
    have K0 := Lib.hid hnew
    have LX0 := Lib.hid (fun o => hw.under rfl (below_alloc w o))
    have HK0 := Lib.hid (hk.below (below_alloc w (.cells #[.int .i64 28, .string p, .string n, .int .i64 N, .slice q kids.length c] 24)))
    generalize letB (typeB d) (exprB d) p n N kids = b1 at *
    clear hw hk hG hg hp hn hN' hd hnew
    go_enter Tryz.func13, Tryz.ntmps13
    go_wp2_with (go_at_call 44; ((with_reducible refine (Hb1.out _ (LX0.out _) HK0.out).mono ?_); rintro e w1 ⟨rfl, hb⟩; have HBB1 := Lib.hid ((below_alloc w (.cells #[.int .i64 28, .string p, .string n, .int .i64 N, .slice q kids.length c] 24)).trans (hb.mono (by simp))); have kk1 := hb_below K0.out hb (by simp); have LX1 := Lib.hid ((LX0.out _).under rfl hb); have HK1 := Lib.hid (HK0.out.below hb); have K1 := Lib.hid kk1; have r1_0 := hb_at kk1 0 rfl; have r1_1 := hb_at kk1 1 rfl; have r1_2 := hb_at kk1 2 rfl; have r1_3 := hb_at kk1 3 rfl; have r1_4 := hb_at kk1 4 rfl; clear hb kk1))
    go_ret
    exact ⟨rfl, HBB1.out⟩
  have d28 : (k == 28) = false := by simpa using hk28
  by_cases hk29 : k = 29
  · subst hk29
    rw [show exprB (d + 1) (.mk 29 p n N kids) = (bareB p n N && (matchB (patB d) (exprB d) kids)) from by simp [exprB]]
    have Hb1 := Lib.hid (fun W => bare_any 29 p n N q kids.length c W)
    have Hb2 := Lib.hid (fun W hW hk => isMatch_any (patB d) (exprB d) d kids (pat_any d) hd hg (.slice q kids.length c) W hW hk)
    have hnew := hb_new w (.cells #[.int .i64 29, .string p, .string n, .int .i64 N, .slice q kids.length c] 24)
    have K0 := Lib.hid hnew
    have LX0 := Lib.hid (fun o => hw.under rfl (below_alloc w o))
    have HK0 := Lib.hid (hk.below (below_alloc w (.cells #[.int .i64 29, .string p, .string n, .int .i64 N, .slice q kids.length c] 24)))
    generalize bareB p n N = b1 at *
    generalize matchB (patB d) (exprB d) kids = b2 at *
    clear hw hk hG hg hp hn hN' hd hnew
    cases b1
    · go_enter Tryz.func13, Tryz.ntmps13
      go_wp2_with (go_at_call 33; ((with_reducible refine (Hb1.out _).mono ?_); rintro e w1 ⟨rfl, hb⟩; have HBB1 := Lib.hid ((below_alloc w (.cells #[.int .i64 29, .string p, .string n, .int .i64 N, .slice q kids.length c] 24)).trans (hb.mono (by simp))); have kk1 := hb_below K0.out hb (by simp); have LX1 := Lib.hid ((LX0.out _).under rfl hb); have HK1 := Lib.hid (HK0.out.below hb); have K1 := Lib.hid kk1; have r1_0 := hb_at kk1 0 rfl; have r1_1 := hb_at kk1 1 rfl; have r1_2 := hb_at kk1 2 rfl; have r1_3 := hb_at kk1 3 rfl; have r1_4 := hb_at kk1 4 rfl; clear hb kk1))
      go_ret
      exact ⟨rfl, HBB1.out⟩
    · skip
      go_enter Tryz.func13, Tryz.ntmps13
      go_wp2_with (first
        | (go_at_call 33; ((with_reducible refine (Hb1.out _).mono ?_); rintro e w1 ⟨rfl, hb⟩; have HBB1 := Lib.hid ((below_alloc w (.cells #[.int .i64 29, .string p, .string n, .int .i64 N, .slice q kids.length c] 24)).trans (hb.mono (by simp))); have kk1 := hb_below K0.out hb (by simp); have LX1 := Lib.hid ((LX0.out _).under rfl hb); have HK1 := Lib.hid (HK0.out.below hb); have K1 := Lib.hid kk1; have r1_0 := hb_at kk1 0 rfl; have r1_1 := hb_at kk1 1 rfl; have r1_2 := hb_at kk1 2 rfl; have r1_3 := hb_at kk1 3 rfl; have r1_4 := hb_at kk1 4 rfl; clear hb kk1))
        | (go_at_call 45; ((with_reducible refine (Hb2.out _ LX1.out HK1.out).mono ?_); rintro e w2 ⟨rfl, hb⟩; have HBB2 := Lib.hid (HBB1.out.trans (hb.mono HBB1.out.size)); have kk2 := hb_below K1.out hb (hb_lt K1.out); have LX2 := Lib.hid (LX1.out.under rfl hb); have HK2 := Lib.hid (HK1.out.below hb); have K2 := Lib.hid kk2; have r2_0 := hb_at kk2 0 rfl; have r2_1 := hb_at kk2 1 rfl; have r2_2 := hb_at kk2 2 rfl; have r2_3 := hb_at kk2 3 rfl; have r2_4 := hb_at kk2 4 rfl; clear hb kk2)))
      go_ret
      exact ⟨rfl, HBB2.out⟩
  have d29 : (k == 29) = false := by simpa using hk29
  by_cases hk30 : k = 30
  · subst hk30
    rw [show exprB (d + 1) (.mk 30 p n N kids) = (bareB p n N && (zipB (typeB d) (exprB d) [13, 9] kids)) from by simp [exprB]]
    have Hb1 := Lib.hid (fun W => bare_any 30 p n N q kids.length c W)
    have Hb2 : RowKit.Hid (∀ g W, LxW W → KidsT W d (.slice q kids.length c) kids → (∀ j K, [13, 9][j]? = some K → W.cell? ⟨g, j, none⟩ = some (.func (.func K) #[] #[])) → g < W.heap.size → Calls Tryz.prog 30 #[.slice q kids.length c, .slice (some ⟨g, 0, none⟩) 2 2] W (Ans (zipB (typeB d) (exprB d) [13, 9] kids) W)) := Lib.hid (fun g W hW hk hgc hgl => isOf_any (typeB d) (exprB d) [13, 9] (by simp) (by decide) d kids (fun _ => type_any d) (fun _ => hd) hg (.slice q kids.length c) g W hW hk hgc hgl)
    have hnew := hb_new w (.cells #[.int .i64 30, .string p, .string n, .int .i64 N, .slice q kids.length c] 24)
    have K0 := Lib.hid hnew
    have LX0 := Lib.hid (fun o => hw.under rfl (below_alloc w o))
    have HK0 := Lib.hid (hk.below (below_alloc w (.cells #[.int .i64 30, .string p, .string n, .int .i64 N, .slice q kids.length c] 24)))
    generalize bareB p n N = b1 at *
    generalize zipB (typeB d) (exprB d) [13, 9] kids = b2 at *
    clear hw hk hG hg hp hn hN' hd hnew
    cases b1
    · go_enter Tryz.func13, Tryz.ntmps13
      go_wp2_with (go_at_call 33; ((with_reducible refine (Hb1.out _).mono ?_); rintro e w1 ⟨rfl, hb⟩; have HBB1 := Lib.hid ((below_alloc w (.cells #[.int .i64 30, .string p, .string n, .int .i64 N, .slice q kids.length c] 24)).trans (hb.mono (by simp))); have kk1 := hb_below K0.out hb (by simp); have LX1 := Lib.hid ((LX0.out _).under rfl hb); have HK1 := Lib.hid (HK0.out.below hb); have K1 := Lib.hid kk1; have r1_0 := hb_at kk1 0 rfl; have r1_1 := hb_at kk1 1 rfl; have r1_2 := hb_at kk1 2 rfl; have r1_3 := hb_at kk1 3 rfl; have r1_4 := hb_at kk1 4 rfl; clear hb kk1))
      go_ret
      exact ⟨rfl, HBB1.out⟩
    · skip
      go_enter Tryz.func13, Tryz.ntmps13
      go_wp2_with (first
        | (go_at_call 33; ((with_reducible refine (Hb1.out _).mono ?_); rintro e w1 ⟨rfl, hb⟩; have HBB1 := Lib.hid ((below_alloc w (.cells #[.int .i64 30, .string p, .string n, .int .i64 N, .slice q kids.length c] 24)).trans (hb.mono (by simp))); have kk1 := hb_below K0.out hb (by simp); have LX1 := Lib.hid ((LX0.out _).under rfl hb); have HK1 := Lib.hid (HK0.out.below hb); have K1 := Lib.hid kk1; have r1_0 := hb_at kk1 0 rfl; have r1_1 := hb_at kk1 1 rfl; have r1_2 := hb_at kk1 2 rfl; have r1_3 := hb_at kk1 3 rfl; have r1_4 := hb_at kk1 4 rfl; clear hb kk1))
        | (go_at_call 30; ((with_reducible refine (Hb2.out _ _ (LX1.out.under rfl (below_alloc _ _)) (HK1.out.below (below_alloc _ _)) (two_funs _ 13 9 _) (by simp)).mono ?_); rintro e w2 ⟨rfl, hb⟩; have HBB2 := Lib.hid ((HBB1.out.alloc HBB1.out.size _).trans (hb.mono (by have := HBB1.out.size; simp; omega))); clear hb)))
      go_ret
      exact ⟨rfl, HBB2.out⟩
  have d30 : (k == 30) = false := by simpa using hk30
  rw [show exprB (d + 1) (.mk k p n N kids) = false from by simp only [exprB, if_neg hk21, if_neg hk22, if_neg hk23, if_neg hk24, if_neg hk25, if_neg hk26, if_neg hk27, if_neg hk28, if_neg hk29, if_neg hk30]]
  clear hw hk hG hg hp hn hN' hd
  go_enter Tryz.func13, Tryz.ntmps13
  go_wp2
  go_ret
  exact ⟨rfl, below_alloc w _⟩
theorem expr_any (d : Nat) : Judge 13 (exprB d) d := by
  induction d with
  | zero => intro v x W h; cases h
  | succ d ih => exact expr_next d ih
end Go.Proofs.YthcpmdgdbceeiaaGreatDoor
/- An annotated expression, as the document judges it. -/
namespace Go.Proofs.YthcpmdgdbceeiaaGreatDoor
open Go.RowKit
set_option linter.unusedSimpArgs false
set_option linter.unusedVariables false
set_option maxRecDepth 100000 in
set_option maxHeartbeats 8000000 in
theorem exprD_30 (d : Nat) (hd : Judge 14 (exprB d) d) (p n : ByteArray) (N : Int) (q : Option Addr) (c : Nat) (kids : List Tm) (hp : p.size ≤ 100000) (hn : n.size ≤ 100000) (hm : kids.length ≤ 2 ^ 63 - 1) (hg : ∀ x ∈ kids, Gd d x) (w : World) (hw : LxW w) (hk : KidsT w d (.slice q kids.length c) kids) :
    Calls Tryz.prog 14 #[tv 30 p n N (.slice q kids.length c)] w (Ans (onlyB ⟨#[]⟩ p n N && zipB (typeB d) (exprB d) [13, 9] kids) w) := by
  by_cases hl : kids.length = 2
  rotate_left
  · have hz : zipB (typeB d) (exprB d) [13, 9] kids = false := zip_len (fun e => hl e.symm)
    rw [hz]
    have hL : ((kids.length : Int) == 2) = false := by rw [beq_eq_false_iff_ne]; omega
    have Hb1 := Lib.hid (fun W => only_any 30 p n N q kids.length c ⟨#[]⟩ (by decide) W)
    generalize onlyB ⟨#[]⟩ p n N = b1 at *
    have hnew := hb_new w (.cells #[.int .i64 30, .string p, .string n, .int .i64 N, .slice q kids.length c] 24)
    have K0 := Lib.hid hnew
    have LX0 := Lib.hid (fun o => hw.under rfl (below_alloc w o))
    have HK0 := Lib.hid (hk.below (below_alloc w (.cells #[.int .i64 30, .string p, .string n, .int .i64 N, .slice q kids.length c] 24)))
    clear hw hk hg hp hn hd hnew hl hz
    cases b1
    all_goals
      go_enter Tryz.func14, Tryz.ntmps14
      go_wp2_with (go_at_call 35; ((with_reducible refine (Hb1.out _).mono ?_); rintro e w1 ⟨rfl, hb⟩; have HBB1 := Lib.hid ((below_alloc w (.cells #[.int .i64 30, .string p, .string n, .int .i64 N, .slice q kids.length c] 24)).trans (hb.mono (by simp))); have kk1 := hb_below K0.out hb (by simp); have LX1 := Lib.hid ((LX0.out _).under rfl hb); have HK1 := Lib.hid (HK0.out.below hb); have K1 := Lib.hid kk1; have r1_0 := hb_at kk1 0 rfl; have r1_1 := hb_at kk1 1 rfl; have r1_2 := hb_at kk1 2 rfl; have r1_3 := hb_at kk1 3 rfl; have r1_4 := hb_at kk1 4 rfl; clear hb kk1))
      go_ret
      exact ⟨rfl, HBB1.out⟩
  obtain ⟨x, y, rfl⟩ : ∃ x y, kids = [x, y] := by
    match kids, hl with
    | [x, y], _ => exact ⟨x, y, rfl⟩
  obtain ⟨q', c', hqc, _, hr⟩ := hk
  injection hqc with e1 _ e3
  subst e1 e3
  have hz : zipB (typeB d) (exprB d) [13, 9] [x, y] = (exprB d x && typeB d y) := by simp [zipB, byF]
  rw [hz]
  show Calls Tryz.prog 14 #[tv 30 p n N (.slice q 2 c)] w _
  obtain ⟨b0, o0, k0, p0, n0, N0, s0, hq0, ha0, ht0⟩ := hr 0 x rfl
  obtain ⟨b1, o1, k1, p1, n1, N1, s1, hq1, ha1, ht1⟩ := hr 1 y rfl
  subst hq0
  have hq1' := hq1
  injection hq1' with hq1'
  injection hq1' with hb1 ho1 _
  subst hb1 ho1
  clear hq1
  obtain ⟨q0, l0, c0, hs0⟩ := ht0.spell
  subst hs0
  obtain ⟨q1, l1, c1, hs1⟩ := ht1.spell
  subst hs1
  rw [Nat.zero_mul, Nat.add_zero] at ha0
  rw [Nat.one_mul] at ha1
  have HC0 := Lib.hid (fun W (hb : Below w.heap.size w W) => ha0.below hb ha0.lt)
  have HC1 := Lib.hid (fun W (hb : Below w.heap.size w W) => ha1.below hb ha1.lt)
  have HJ0 := Lib.hid (fun W (hb : Below w.heap.size w W) => hd _ x W (ht0.below hb) (hg x (by simp)) (hw.below hb))
  have HJ1 := Lib.hid (fun W (hb : Below w.heap.size w W) => typeD_any d _ y W (ht1.below hb) (hg y (by simp)) (hw.below hb))
  have Hb1 := Lib.hid (fun W => only_any 30 p n N (some ⟨b0, o0, none⟩) 2 c ⟨#[]⟩ (by decide) W)
  generalize onlyB ⟨#[]⟩ p n N = b1 at *
  generalize exprB d x = b2 at *
  generalize typeB d y = b3 at *
  have hnew := hb_new w (.cells #[.int .i64 30, .string p, .string n, .int .i64 N, .slice (some ⟨b0, o0, none⟩) 2 c] 24)
  have K0 := Lib.hid hnew
  have LX0 := Lib.hid (fun o => hw.under rfl (below_alloc w o))
  clear hw hg hp hn hd hnew hl hz hr ha0 ha1 ht0 ht1
  cases b1
  · go_enter Tryz.func14, Tryz.ntmps14
    go_wp2_with (go_at_call 35; ((with_reducible refine (Hb1.out _).mono ?_); rintro e w1 ⟨rfl, hb⟩; have HBB1 := Lib.hid ((below_alloc w (.cells #[.int .i64 30, .string p, .string n, .int .i64 N, .slice (some ⟨b0, o0, none⟩) 2 c] 24)).trans (hb.mono (by simp))); have kk1 := hb_below K0.out hb (by simp); have LX1 := Lib.hid ((LX0.out _).under rfl hb); have K1 := Lib.hid kk1; have r1_0 := hb_at kk1 0 rfl; have r1_1 := hb_at kk1 1 rfl; have r1_2 := hb_at kk1 2 rfl; have r1_3 := hb_at kk1 3 rfl; have r1_4 := hb_at kk1 4 rfl; clear hb kk1; obtain ⟨y100, y101, y102, y103, y104⟩ := HC0.out _ HBB1.out))
    go_ret
    exact ⟨rfl, HBB1.out⟩
  cases b2
  · go_enter Tryz.func14, Tryz.ntmps14
    go_wp2_with (first
      | (go_at_call 35; ((with_reducible refine (Hb1.out _).mono ?_); rintro e w1 ⟨rfl, hb⟩; have HBB1 := Lib.hid ((below_alloc w (.cells #[.int .i64 30, .string p, .string n, .int .i64 N, .slice (some ⟨b0, o0, none⟩) 2 c] 24)).trans (hb.mono (by simp))); have kk1 := hb_below K0.out hb (by simp); have LX1 := Lib.hid ((LX0.out _).under rfl hb); have K1 := Lib.hid kk1; have r1_0 := hb_at kk1 0 rfl; have r1_1 := hb_at kk1 1 rfl; have r1_2 := hb_at kk1 2 rfl; have r1_3 := hb_at kk1 3 rfl; have r1_4 := hb_at kk1 4 rfl; clear hb kk1; obtain ⟨y100, y101, y102, y103, y104⟩ := HC0.out _ HBB1.out))
      | (go_at_call 14; ((with_reducible refine (HJ0.out _ HBB1.out).mono ?_); rintro e w2 ⟨rfl, hb⟩; have HBB2 := Lib.hid (HBB1.out.trans (hb.mono HBB1.out.size)); have kk2 := hb_below K1.out hb (hb_lt K1.out); have LX2 := Lib.hid (LX1.out.under rfl hb); have K2 := Lib.hid kk2; have r2_0 := hb_at kk2 0 rfl; have r2_1 := hb_at kk2 1 rfl; have r2_2 := hb_at kk2 2 rfl; have r2_3 := hb_at kk2 3 rfl; have r2_4 := hb_at kk2 4 rfl; clear hb kk2; obtain ⟨y210, y211, y212, y213, y214⟩ := HC1.out _ HBB2.out)))
    go_ret
    exact ⟨rfl, HBB2.out⟩
  go_enter Tryz.func14, Tryz.ntmps14
  go_wp2_with (first
    | (go_at_call 35; ((with_reducible refine (Hb1.out _).mono ?_); rintro e w1 ⟨rfl, hb⟩; have HBB1 := Lib.hid ((below_alloc w (.cells #[.int .i64 30, .string p, .string n, .int .i64 N, .slice (some ⟨b0, o0, none⟩) 2 c] 24)).trans (hb.mono (by simp))); have kk1 := hb_below K0.out hb (by simp); have LX1 := Lib.hid ((LX0.out _).under rfl hb); have K1 := Lib.hid kk1; have r1_0 := hb_at kk1 0 rfl; have r1_1 := hb_at kk1 1 rfl; have r1_2 := hb_at kk1 2 rfl; have r1_3 := hb_at kk1 3 rfl; have r1_4 := hb_at kk1 4 rfl; clear hb kk1; obtain ⟨y100, y101, y102, y103, y104⟩ := HC0.out _ HBB1.out))
    | (go_at_call 14; ((with_reducible refine (HJ0.out _ HBB1.out).mono ?_); rintro e w2 ⟨rfl, hb⟩; have HBB2 := Lib.hid (HBB1.out.trans (hb.mono HBB1.out.size)); have kk2 := hb_below K1.out hb (hb_lt K1.out); have LX2 := Lib.hid (LX1.out.under rfl hb); have K2 := Lib.hid kk2; have r2_0 := hb_at kk2 0 rfl; have r2_1 := hb_at kk2 1 rfl; have r2_2 := hb_at kk2 2 rfl; have r2_3 := hb_at kk2 3 rfl; have r2_4 := hb_at kk2 4 rfl; clear hb kk2; obtain ⟨y210, y211, y212, y213, y214⟩ := HC1.out _ HBB2.out))
    | (go_at_call 10; ((with_reducible refine (HJ1.out _ HBB2.out).mono ?_); rintro e w3 ⟨rfl, hb⟩; have HBB3 := Lib.hid (HBB2.out.trans (hb.mono HBB2.out.size)); clear hb)))
  go_ret
  exact ⟨rfl, HBB3.out⟩
end Go.Proofs.YthcpmdgdbceeiaaGreatDoor
