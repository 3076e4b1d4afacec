/- Contracts: the document's pin and Right of any command. -/
import Derived.Test.YtfbfdkjimoomlaaQ2
namespace Go.Proofs.Ytfbfdkjimoomlaa
open Go.RowKit
theorem refPin_any (x : Cm.Pn) (hm : x.p.size ≤ 4194304) (w : World) : Calls Try.prog 34 #[pinv x] w fun e w' => e = .returned (.bool (Cm.okPin x)) ∧ Below w.heap.size w w' := by
  have HX : RowKit.Hid (Cm.okPin x = (Sv.pkgB x.p.data.toList && Sv.right x.v)) := Lib.hid rfl
  rcases hk : Sv.pkgB x.p.data.toList with _ | _
  · have HK := Lib.hid hk
    clear hk
    go_enter Try.func34, Try.ntmps34
    go_wp2_with (go_at_call 56; ((with_reducible refine (refIsPkg_any x.p hm _).mono ?_); rintro e w' ⟨rfl, rfl⟩; rw [HK.out]))
    go_ret
    exact ⟨ret_bool (by rw [HX.out, HK.out]; rfl), below_alloc _ _⟩
  · have HK := Lib.hid hk
    clear hk
    rcases hr : Sv.right x.v with _ | _
    all_goals
      have HR := Lib.hid hr
      clear hr
      go_enter Try.func34, Try.ntmps34
      go_wp2_with (first
        | (go_at_call 56; ((with_reducible refine (refIsPkg_any x.p hm _).mono ?_); rintro e w' ⟨rfl, rfl⟩; rw [HK.out]))
        | (go_at_call 57; ((with_reducible refine (refRight_any x.v _).mono ?_); rintro e w2 ⟨rfl, hb2⟩; rw [HR.out])))
      go_ret
      exact ⟨ret_bool (by rw [HX.out, HK.out, HR.out]; rfl), (below_alloc w _).trans (hb2.mono (by rw [World.size_alloc]; exact Nat.le_succ _))⟩
theorem right_zV : Sv.right Cm.zV = true := by decide
theorem below2' (w : World) (o1 o2 : Obj) : Below w.heap.size w ((w.alloc o1).alloc o2) := below2 w o1 o2
set_option maxRecDepth 100000 in
theorem q_low (c : Cm.Cmd) (h : c.k < 1 ∨ 10 < c.k) (w : World) : Calls Try.prog 12 #[cmdv c] w fun e w' => e = .returned (.bool (Cm.rightB c)) ∧ Below w.heap.size w w' := by
  have HR : RowKit.Hid (Cm.rightB c = false) := Lib.hid (Cm.right_no fun q => by have := q.1; omega)
  by_cases h1 : c.k < 1
  · have d1 : decide (c.k < 1) = true := by simpa using h1
    clear h h1
    go_enter Try.func12, Try.ntmps12
    go_wp2
    go_ret
    exact ⟨ret_bool HR.out.symm, below2 _ _ _⟩
  · have d1 : decide (c.k < 1) = false := by simp; omega
    have d2 : decide (10 < c.k) = true := by simp; omega
    clear h h1
    go_enter Try.func12, Try.ntmps12
    go_wp2
    go_ret
    exact ⟨ret_bool HR.out.symm, below2 _ _ _⟩

set_option maxRecDepth 100000 in
set_option maxHeartbeats 4000000 in
theorem q_five (c : Cm.Cmd) (h5 : c.k = 5) (hma : c.a.p.size ≤ 4194304) (hmb : c.b.p.size ≤ 4194304) (w : World) : Calls Try.prog 12 #[cmdv c] w fun e w' => e = .returned (.bool (Cm.rightB c)) ∧ Below w.heap.size w w' := by
  have HK : RowKit.Hid (1 ≤ c.k ∧ c.k ≤ 10) := Lib.hid (by omega)
  have HP : RowKit.Hid (Cm.hasPin c.k = true) := Lib.hid (by rw [h5]; rfl)
  have HO : RowKit.Hid (Cm.hasOther c.k = false) := Lib.hid (by rw [h5]; rfl)
  have HS : RowKit.Hid (Cm.hasSource c.k = false) := Lib.hid (by rw [h5]; rfl)
  have HFIVE : RowKit.Hid (Cm.okPin c.a = true → Cm.okOne c.k c.a = decide (c.a.v = Cm.zV)) := Lib.hid (fun h => by unfold Cm.okPin at h; rw [Bool.and_eq_true] at h; unfold Cm.okOne; rw [h.1, if_pos h5]; rfl)
  have HNO : RowKit.Hid (Cm.okPin c.a = false → Cm.okOne c.k c.a = false) := Lib.hid (fun h => by
    unfold Cm.okPin at h; unfold Cm.okOne; rw [if_pos h5]
    by_cases hz : c.a.v = Cm.zV
    · rw [hz, right_zV, Bool.and_true] at h; rw [h]; rfl
    · rw [decide_eq_false hz, Bool.and_false])
  have d1 : decide (c.k < 1) = false := by rw [h5]; rfl
  have d2 : decide (10 < c.k) = false := by rw [h5]; rfl
  have d5 : (c.k == 5) = true := by rw [h5]; rfl
  have d6 : (c.k == 6) = false := by rw [h5]; rfl
  have d7 : (c.k != 6) = true := by rw [h5]; rfl
  clear h5
  go_enter Try.func12, Try.ntmps12
  go_upto_region 2 with fail
  have FA0 : RowKit.Hid (Cm.hasPin c.k = false → c.a = Cm.noPin) := Lib.hid (fun h => by rw [HP.out] at h; cases h)
  rcases hoa : Cm.okPin c.a with _ | _
  · have HOA := Lib.hid hoa
    clear hoa
    go_wp2_with (first
      | (go_at_call 28; ((with_reducible refine (refHasPin_any c.k _).mono ?_); rintro e w' ⟨rfl, rfl⟩; rw [HP.out]))
      | (go_at_call 34; ((with_reducible refine (refPin_any c.a hma _).mono ?_); rintro e w1 ⟨rfl, hb1⟩; rw [HOA.out]; obtain ⟨hc1, hf1⟩ := bcell hb1; have hz1 : w.heap.size < w1.heap.size := Nat.lt_of_lt_of_le (by simp; omega) hb1.size; have hz2 : w.heap.size + 1 < w1.heap.size := Nat.lt_of_lt_of_le (by simp) hb1.size; have HB1 := Lib.hid hb1; clear hb1 hf1)))
    go_ret
    exact ⟨ret_bool (Cm.right_no (fun q => by have h := q.2.1 HP.out; rw [HNO.out HOA.out] at h; cases h)).symm, ((below2 w _ _).trans (HB1.out.mono (below2 w _ _).size))⟩
  · have HOA := Lib.hid hoa
    clear hoa
    go_upto_region 4 with (first
      | (go_at_call 28; ((with_reducible refine (refHasPin_any c.k _).mono ?_); rintro e w' ⟨rfl, rfl⟩; rw [HP.out]))
      | (go_at_call 34; ((with_reducible refine (refPin_any c.a hma _).mono ?_); rintro e w1 ⟨rfl, hb1⟩; rw [HOA.out]; obtain ⟨hc1, hf1⟩ := bcell hb1; have hz1 : w.heap.size < w1.heap.size := Nat.lt_of_lt_of_le (by simp; omega) hb1.size; have hz2 : w.heap.size + 1 < w1.heap.size := Nat.lt_of_lt_of_le (by simp) hb1.size; have HB1 := Lib.hid hb1; clear hb1 hf1)))
    rcases hz : decide (c.a.v = Cm.zV) with _ | _
    · have qz := fun w => neV c.a.v Cm.zV true hz w
      have HZ := Lib.hid hz
      clear hz
      go_wp2
      go_ret
      exact ⟨ret_bool (Cm.right_no (fun q => by have h := q.2.1 HP.out; rw [HFIVE.out HOA.out, HZ.out] at h; cases h)).symm, ((below2 w _ _).trans (HB1.out.mono (below2 w _ _).size))⟩
    · have qz := fun w => neV c.a.v Cm.zV false hz w
      have FA : RowKit.Hid (Cm.hasPin c.k = true → Cm.okOne c.k c.a = true) := Lib.hid (fun _ => by rw [HFIVE.out HOA.out, hz])
      clear hz
      have FB : RowKit.Hid (Cm.hasOther c.k = true → Cm.okPin c.b = true) := Lib.hid (fun h => by rw [HO.out] at h; cases h)
      rcases hnb : decide (c.b = Cm.noPin) with _ | _
      · have qb := fun w => neP c.b Cm.noPin true hnb w
        have HNB := Lib.hid (of_decide_eq_false hnb)
        clear hnb
        go_wp2
        go_ret
        exact ⟨ret_bool (Cm.right_no (fun q => HNB.out (q.2.2.2.2.1 HO.out))).symm, ((below2 w _ _).trans (HB1.out.mono (below2 w _ _).size))⟩
      · have qb := fun w => neP c.b Cm.noPin false hnb w
        have FB0 : RowKit.Hid (Cm.hasOther c.k = false → c.b = Cm.noPin) := Lib.hid (fun _ => of_decide_eq_true hnb)
        clear hnb
        go_upto_region 6 with fail
        by_cases hsz : c.s.size ≤ 20000
        · have d9 : decide ((c.s.size : Int) ≤ 20000) = true := by simp; omega
          have HSZ := Lib.hid hsz
          clear hsz
          by_cases hem : c.s = ⟨#[]⟩
          · have he1 : c.s.toList = [] := by rw [hem, ByteArray.toList_eq]
            have he2 : c.s.toList.isEmpty = true := by rw [he1]; rfl
            have HEM := Lib.hid hem
            clear hem
            go_wp2_with (go_at_call 30; ((with_reducible refine (refHasSource_any c.k _).mono ?_); rintro e w' ⟨rfl, rfl⟩; rw [HS.out]))
            go_ret
            exact ⟨ret_bool (Cm.right_yes ⟨HK.out, FA.out, FA0.out, FB.out, FB0.out, HSZ.out, fun _ => HEM.out⟩).symm, ((below2 w _ _).trans (HB1.out.mono (below2 w _ _).size))⟩
          · have he1 : ¬ c.s.toList = [] := fun h => hem (nil_of h)
            have he2 : c.s.toList.isEmpty = false := by cases h : c.s.toList with | nil => exact absurd h he1 | cons a l => rfl
            have HEM := Lib.hid hem
            clear hem
            go_wp2_with (go_at_call 30; ((with_reducible refine (refHasSource_any c.k _).mono ?_); rintro e w' ⟨rfl, rfl⟩; rw [HS.out]))
            go_ret
            exact ⟨ret_bool (Cm.right_no (fun q => HEM.out (q.2.2.2.2.2.2 HS.out))).symm, ((below2 w _ _).trans (HB1.out.mono (below2 w _ _).size))⟩
        · have d9 : decide ((c.s.size : Int) ≤ 20000) = false := by simp; omega
          have HSZ := Lib.hid hsz
          clear hsz
          go_wp2
          go_ret
          exact ⟨ret_bool (Cm.right_no (fun q => HSZ.out q.2.2.2.2.2.1)).symm, ((below2 w _ _).trans (HB1.out.mono (below2 w _ _).size))⟩
set_option maxRecDepth 100000 in
set_option maxHeartbeats 4000000 in
theorem q_else (c : Cm.Cmd) (h1 : 1 ≤ c.k) (h2 : c.k ≤ 10) (h5 : c.k ≠ 5) (hma : c.a.p.size ≤ 4194304) (hmb : c.b.p.size ≤ 4194304) (w : World) : Calls Try.prog 12 #[cmdv c] w fun e w' => e = .returned (.bool (Cm.rightB c)) ∧ Below w.heap.size w w' := by
  have HK : RowKit.Hid (1 ≤ c.k ∧ c.k ≤ 10) := Lib.hid ⟨h1, h2⟩
  have HSAME : RowKit.Hid (Cm.okOne c.k c.a = Cm.okPin c.a) := Lib.hid (by unfold Cm.okOne Cm.okPin; rw [if_neg h5])
  have HNO : RowKit.Hid (Cm.okPin c.a = false → Cm.okOne c.k c.a = false) := Lib.hid (fun h => HSAME.out.trans h)
  obtain ⟨P, hP⟩ : ∃ P, Cm.hasPin c.k = P := ⟨_, rfl⟩
  obtain ⟨S, hS⟩ : ∃ S, Cm.hasSource c.k = S := ⟨_, rfl⟩
  have HP := Lib.hid hP
  have HS := Lib.hid hS
  have d1 : decide (c.k < 1) = false := by simp; omega
  have d2 : decide (10 < c.k) = false := by simp; omega
  have d5 := beq_no h5
  clear h1 h2 h5 hP hS
  go_enter Try.func12, Try.ntmps12
  go_upto_region 2 with fail
  cases P with
  | true =>
    have FA0 : RowKit.Hid (Cm.hasPin c.k = false → c.a = Cm.noPin) := Lib.hid (fun h => by rw [HP.out] at h; cases h)
    rcases hoa : Cm.okPin c.a with _ | _
    · have HOA := Lib.hid hoa
      clear hoa
      go_wp2_with (first
        | (go_at_call 28; ((with_reducible refine (refHasPin_any c.k _).mono ?_); rintro e w' ⟨rfl, rfl⟩; rw [HP.out]))
        | (go_at_call 34; ((with_reducible refine (refPin_any c.a hma _).mono ?_); rintro e w1 ⟨rfl, hb1⟩; rw [HOA.out]; obtain ⟨hc1, hf1⟩ := bcell hb1; have hz1 : w.heap.size < w1.heap.size := Nat.lt_of_lt_of_le (by simp; omega) hb1.size; have hz2 : w.heap.size + 1 < w1.heap.size := Nat.lt_of_lt_of_le (by simp) hb1.size; have HB1 := Lib.hid hb1; clear hb1 hf1)))
      go_ret
      exact ⟨ret_bool (Cm.right_no (fun q => by have h := q.2.1 HP.out; rw [HNO.out HOA.out] at h; cases h)).symm, ((below2 w _ _).trans (HB1.out.mono (below2 w _ _).size))⟩
    · have HOA := Lib.hid hoa
      clear hoa
      have FA : RowKit.Hid (Cm.hasPin c.k = true → Cm.okOne c.k c.a = true) := Lib.hid (fun _ => (HSAME.out).trans HOA.out)
      go_upto_region 4 with (first
        | (go_at_call 28; ((with_reducible refine (refHasPin_any c.k _).mono ?_); rintro e w' ⟨rfl, rfl⟩; rw [HP.out]))
        | (go_at_call 34; ((with_reducible refine (refPin_any c.a hma _).mono ?_); rintro e w1 ⟨rfl, hb1⟩; rw [HOA.out]; obtain ⟨hc1, hf1⟩ := bcell hb1; have hz1 : w.heap.size < w1.heap.size := Nat.lt_of_lt_of_le (by simp; omega) hb1.size; have hz2 : w.heap.size + 1 < w1.heap.size := Nat.lt_of_lt_of_le (by simp) hb1.size; have HB1 := Lib.hid hb1; clear hb1 hf1)))
      by_cases h6 : c.k = 6
      · have d6 : (c.k == 6) = true := by rw [h6]; rfl
        have d7 : (c.k != 6) = false := by rw [h6]; rfl
        have HO : RowKit.Hid (Cm.hasOther c.k = true) := Lib.hid (by rw [h6]; rfl)
        clear h6
        have FB0 : RowKit.Hid (Cm.hasOther c.k = false → c.b = Cm.noPin) := Lib.hid (fun h => by rw [HO.out] at h; cases h)
        rcases hob : Cm.okPin c.b with _ | _
        · have HOB := Lib.hid hob
          clear hob
          go_wp2_with (go_at_call 34; ((with_reducible refine (refPin_any c.b hmb _).mono ?_); rintro e w2 ⟨rfl, hb2⟩; rw [HOB.out]; obtain ⟨hc2, hf2⟩ := bcell hb2; have hz3 : w.heap.size < w2.heap.size := Nat.lt_of_lt_of_le hz1 hb2.size; have hz4 : w.heap.size + 1 < w2.heap.size := Nat.lt_of_lt_of_le hz2 hb2.size; have HB2 := Lib.hid hb2; clear hb2 hf2))
          go_ret
          exact ⟨ret_bool (Cm.right_no (fun q => by have h := q.2.2.2.1 HO.out; rw [HOB.out] at h; cases h)).symm, (((below2 w _ _).trans (HB1.out.mono (below2 w _ _).size)).trans (HB2.out.mono ((below2 w _ _).trans (HB1.out.mono (below2 w _ _).size)).size))⟩
        · have HOB := Lib.hid hob
          clear hob
          have FB : RowKit.Hid (Cm.hasOther c.k = true → Cm.okPin c.b = true) := Lib.hid (fun _ => HOB.out)
          go_upto_region 6 with (go_at_call 34; ((with_reducible refine (refPin_any c.b hmb _).mono ?_); rintro e w2 ⟨rfl, hb2⟩; rw [HOB.out]; obtain ⟨hc2, hf2⟩ := bcell hb2; have hz3 : w.heap.size < w2.heap.size := Nat.lt_of_lt_of_le hz1 hb2.size; have hz4 : w.heap.size + 1 < w2.heap.size := Nat.lt_of_lt_of_le hz2 hb2.size; have HB2 := Lib.hid hb2; clear hb2 hf2))
          by_cases hsz : c.s.size ≤ 20000
          · have d9 : decide ((c.s.size : Int) ≤ 20000) = true := by simp; omega
            have HSZ := Lib.hid hsz
            clear hsz
            cases S with
            | true =>
              go_wp2_with (go_at_call 30; ((with_reducible refine (refHasSource_any c.k _).mono ?_); rintro e w' ⟨rfl, rfl⟩; rw [HS.out]))
              go_ret
              exact ⟨ret_bool (Cm.right_yes ⟨HK.out, FA.out, FA0.out, FB.out, FB0.out, HSZ.out, fun h => by rw [HS.out] at h; cases h⟩).symm, (((below2 w _ _).trans (HB1.out.mono (below2 w _ _).size)).trans (HB2.out.mono ((below2 w _ _).trans (HB1.out.mono (below2 w _ _).size)).size))⟩
            | false =>
              by_cases hem : c.s = ⟨#[]⟩
              · have he1 : c.s.toList = [] := by rw [hem, ByteArray.toList_eq]
                have he2 : c.s.toList.isEmpty = true := by rw [he1]; rfl
                have HEM := Lib.hid hem
                clear hem
                go_wp2_with (go_at_call 30; ((with_reducible refine (refHasSource_any c.k _).mono ?_); rintro e w' ⟨rfl, rfl⟩; rw [HS.out]))
                go_ret
                exact ⟨ret_bool (Cm.right_yes ⟨HK.out, FA.out, FA0.out, FB.out, FB0.out, HSZ.out, fun _ => HEM.out⟩).symm, (((below2 w _ _).trans (HB1.out.mono (below2 w _ _).size)).trans (HB2.out.mono ((below2 w _ _).trans (HB1.out.mono (below2 w _ _).size)).size))⟩
              · have he1 : ¬ c.s.toList = [] := fun h => hem (nil_of h)
                have he2 : c.s.toList.isEmpty = false := by cases h : c.s.toList with | nil => exact absurd h he1 | cons a l => rfl
                have HEM := Lib.hid hem
                clear hem
                go_wp2_with (go_at_call 30; ((with_reducible refine (refHasSource_any c.k _).mono ?_); rintro e w' ⟨rfl, rfl⟩; rw [HS.out]))
                go_ret
                exact ⟨ret_bool (Cm.right_no (fun q => HEM.out (q.2.2.2.2.2.2 HS.out))).symm, (((below2 w _ _).trans (HB1.out.mono (below2 w _ _).size)).trans (HB2.out.mono ((below2 w _ _).trans (HB1.out.mono (below2 w _ _).size)).size))⟩
          · have d9 : decide ((c.s.size : Int) ≤ 20000) = false := by simp; omega
            have HSZ := Lib.hid hsz
            clear hsz
            go_wp2
            go_ret
            exact ⟨ret_bool (Cm.right_no (fun q => HSZ.out q.2.2.2.2.2.1)).symm, (((below2 w _ _).trans (HB1.out.mono (below2 w _ _).size)).trans (HB2.out.mono ((below2 w _ _).trans (HB1.out.mono (below2 w _ _).size)).size))⟩
      · have d6 : (c.k == 6) = false := beq_no h6
        have d7 : (c.k != 6) = true := by simpa using h6
        have HO : RowKit.Hid (Cm.hasOther c.k = false) := Lib.hid (by unfold Cm.hasOther; rw [decide_eq_false_iff_not]; exact h6)
        clear h6
        have FB : RowKit.Hid (Cm.hasOther c.k = true → Cm.okPin c.b = true) := Lib.hid (fun h => by rw [HO.out] at h; cases h)
        rcases hnb : decide (c.b = Cm.noPin) with _ | _
        · have qb := fun w => neP c.b Cm.noPin true hnb w
          have HNB := Lib.hid (of_decide_eq_false hnb)
          clear hnb
          go_wp2
          go_ret
          exact ⟨ret_bool (Cm.right_no (fun q => HNB.out (q.2.2.2.2.1 HO.out))).symm, ((below2 w _ _).trans (HB1.out.mono (below2 w _ _).size))⟩
        · have qb := fun w => neP c.b Cm.noPin false hnb w
          have FB0 : RowKit.Hid (Cm.hasOther c.k = false → c.b = Cm.noPin) := Lib.hid (fun _ => of_decide_eq_true hnb)
          clear hnb
          go_upto_region 6 with fail
          by_cases hsz : c.s.size ≤ 20000
          · have d9 : decide ((c.s.size : Int) ≤ 20000) = true := by simp; omega
            have HSZ := Lib.hid hsz
            clear hsz
            cases S with
            | true =>
              go_wp2_with (go_at_call 30; ((with_reducible refine (refHasSource_any c.k _).mono ?_); rintro e w' ⟨rfl, rfl⟩; rw [HS.out]))
              go_ret
              exact ⟨ret_bool (Cm.right_yes ⟨HK.out, FA.out, FA0.out, FB.out, FB0.out, HSZ.out, fun h => by rw [HS.out] at h; cases h⟩).symm, ((below2 w _ _).trans (HB1.out.mono (below2 w _ _).size))⟩
            | false =>
              by_cases hem : c.s = ⟨#[]⟩
              · have he1 : c.s.toList = [] := by rw [hem, ByteArray.toList_eq]
                have he2 : c.s.toList.isEmpty = true := by rw [he1]; rfl
                have HEM := Lib.hid hem
                clear hem
                go_wp2_with (go_at_call 30; ((with_reducible refine (refHasSource_any c.k _).mono ?_); rintro e w' ⟨rfl, rfl⟩; rw [HS.out]))
                go_ret
                exact ⟨ret_bool (Cm.right_yes ⟨HK.out, FA.out, FA0.out, FB.out, FB0.out, HSZ.out, fun _ => HEM.out⟩).symm, ((below2 w _ _).trans (HB1.out.mono (below2 w _ _).size))⟩
              · have he1 : ¬ c.s.toList = [] := fun h => hem (nil_of h)
                have he2 : c.s.toList.isEmpty = false := by cases h : c.s.toList with | nil => exact absurd h he1 | cons a l => rfl
                have HEM := Lib.hid hem
                clear hem
                go_wp2_with (go_at_call 30; ((with_reducible refine (refHasSource_any c.k _).mono ?_); rintro e w' ⟨rfl, rfl⟩; rw [HS.out]))
                go_ret
                exact ⟨ret_bool (Cm.right_no (fun q => HEM.out (q.2.2.2.2.2.2 HS.out))).symm, ((below2 w _ _).trans (HB1.out.mono (below2 w _ _).size))⟩
          · have d9 : decide ((c.s.size : Int) ≤ 20000) = false := by simp; omega
            have HSZ := Lib.hid hsz
            clear hsz
            go_wp2
            go_ret
            exact ⟨ret_bool (Cm.right_no (fun q => HSZ.out q.2.2.2.2.2.1)).symm, ((below2 w _ _).trans (HB1.out.mono (below2 w _ _).size))⟩
  | false =>
    have FA : RowKit.Hid (Cm.hasPin c.k = true → Cm.okOne c.k c.a = true) := Lib.hid (fun h => by rw [HP.out] at h; cases h)
    rcases hna : decide (c.a = Cm.noPin) with _ | _
    · have qa := fun w => neP c.a Cm.noPin true hna w
      have HNA := Lib.hid (of_decide_eq_false hna)
      clear hna
      go_wp2_with (go_at_call 28; ((with_reducible refine (refHasPin_any c.k _).mono ?_); rintro e w' ⟨rfl, rfl⟩; rw [HP.out]))
      go_ret
      exact ⟨ret_bool (Cm.right_no (fun q => HNA.out (q.2.2.1 HP.out))).symm, (below2 w _ _)⟩
    · have qa := fun w => neP c.a Cm.noPin false hna w
      have FA0 : RowKit.Hid (Cm.hasPin c.k = false → c.a = Cm.noPin) := Lib.hid (fun _ => of_decide_eq_true hna)
      clear hna
      go_upto_region 4 with (go_at_call 28; ((with_reducible refine (refHasPin_any c.k _).mono ?_); rintro e w' ⟨rfl, rfl⟩; rw [HP.out]))
      by_cases h6 : c.k = 6
      · have d6 : (c.k == 6) = true := by rw [h6]; rfl
        have d7 : (c.k != 6) = false := by rw [h6]; rfl
        have HO : RowKit.Hid (Cm.hasOther c.k = true) := Lib.hid (by rw [h6]; rfl)
        clear h6
        have FB0 : RowKit.Hid (Cm.hasOther c.k = false → c.b = Cm.noPin) := Lib.hid (fun h => by rw [HO.out] at h; cases h)
        rcases hob : Cm.okPin c.b with _ | _
        · have HOB := Lib.hid hob
          clear hob
          go_wp2_with (go_at_call 34; ((with_reducible refine (refPin_any c.b hmb _).mono ?_); rintro e w2 ⟨rfl, hb2⟩; rw [HOB.out]; obtain ⟨hc2, hf2⟩ := bcell hb2; have hz3 : w.heap.size < w2.heap.size := Nat.lt_of_lt_of_le (by simp; omega) hb2.size; have hz4 : w.heap.size + 1 < w2.heap.size := Nat.lt_of_lt_of_le (by simp) hb2.size; have HB2 := Lib.hid hb2; clear hb2 hf2))
          go_ret
          exact ⟨ret_bool (Cm.right_no (fun q => by have h := q.2.2.2.1 HO.out; rw [HOB.out] at h; cases h)).symm, ((below2 w _ _).trans (HB2.out.mono (below2 w _ _).size))⟩
        · have HOB := Lib.hid hob
          clear hob
          have FB : RowKit.Hid (Cm.hasOther c.k = true → Cm.okPin c.b = true) := Lib.hid (fun _ => HOB.out)
          go_upto_region 6 with (go_at_call 34; ((with_reducible refine (refPin_any c.b hmb _).mono ?_); rintro e w2 ⟨rfl, hb2⟩; rw [HOB.out]; obtain ⟨hc2, hf2⟩ := bcell hb2; have hz3 : w.heap.size < w2.heap.size := Nat.lt_of_lt_of_le (by simp; omega) hb2.size; have hz4 : w.heap.size + 1 < w2.heap.size := Nat.lt_of_lt_of_le (by simp) hb2.size; have HB2 := Lib.hid hb2; clear hb2 hf2))
          by_cases hsz : c.s.size ≤ 20000
          · have d9 : decide ((c.s.size : Int) ≤ 20000) = true := by simp; omega
            have HSZ := Lib.hid hsz
            clear hsz
            cases S with
            | true =>
              go_wp2_with (go_at_call 30; ((with_reducible refine (refHasSource_any c.k _).mono ?_); rintro e w' ⟨rfl, rfl⟩; rw [HS.out]))
              go_ret
              exact ⟨ret_bool (Cm.right_yes ⟨HK.out, FA.out, FA0.out, FB.out, FB0.out, HSZ.out, fun h => by rw [HS.out] at h; cases h⟩).symm, ((below2 w _ _).trans (HB2.out.mono (below2 w _ _).size))⟩
            | false =>
              by_cases hem : c.s = ⟨#[]⟩
              · have he1 : c.s.toList = [] := by rw [hem, ByteArray.toList_eq]
                have he2 : c.s.toList.isEmpty = true := by rw [he1]; rfl
                have HEM := Lib.hid hem
                clear hem
                go_wp2_with (go_at_call 30; ((with_reducible refine (refHasSource_any c.k _).mono ?_); rintro e w' ⟨rfl, rfl⟩; rw [HS.out]))
                go_ret
                exact ⟨ret_bool (Cm.right_yes ⟨HK.out, FA.out, FA0.out, FB.out, FB0.out, HSZ.out, fun _ => HEM.out⟩).symm, ((below2 w _ _).trans (HB2.out.mono (below2 w _ _).size))⟩
              · have he1 : ¬ c.s.toList = [] := fun h => hem (nil_of h)
                have he2 : c.s.toList.isEmpty = false := by cases h : c.s.toList with | nil => exact absurd h he1 | cons a l => rfl
                have HEM := Lib.hid hem
                clear hem
                go_wp2_with (go_at_call 30; ((with_reducible refine (refHasSource_any c.k _).mono ?_); rintro e w' ⟨rfl, rfl⟩; rw [HS.out]))
                go_ret
                exact ⟨ret_bool (Cm.right_no (fun q => HEM.out (q.2.2.2.2.2.2 HS.out))).symm, ((below2 w _ _).trans (HB2.out.mono (below2 w _ _).size))⟩
          · have d9 : decide ((c.s.size : Int) ≤ 20000) = false := by simp; omega
            have HSZ := Lib.hid hsz
            clear hsz
            go_wp2
            go_ret
            exact ⟨ret_bool (Cm.right_no (fun q => HSZ.out q.2.2.2.2.2.1)).symm, ((below2 w _ _).trans (HB2.out.mono (below2 w _ _).size))⟩
      · have d6 : (c.k == 6) = false := beq_no h6
        have d7 : (c.k != 6) = true := by simpa using h6
        have HO : RowKit.Hid (Cm.hasOther c.k = false) := Lib.hid (by unfold Cm.hasOther; rw [decide_eq_false_iff_not]; exact h6)
        clear h6
        have FB : RowKit.Hid (Cm.hasOther c.k = true → Cm.okPin c.b = true) := Lib.hid (fun h => by rw [HO.out] at h; cases h)
        rcases hnb : decide (c.b = Cm.noPin) with _ | _
        · have qb := fun w => neP c.b Cm.noPin true hnb w
          have HNB := Lib.hid (of_decide_eq_false hnb)
          clear hnb
          go_wp2
          go_ret
          exact ⟨ret_bool (Cm.right_no (fun q => HNB.out (q.2.2.2.2.1 HO.out))).symm, (below2 w _ _)⟩
        · have qb := fun w => neP c.b Cm.noPin false hnb w
          have FB0 : RowKit.Hid (Cm.hasOther c.k = false → c.b = Cm.noPin) := Lib.hid (fun _ => of_decide_eq_true hnb)
          clear hnb
          go_upto_region 6 with fail
          by_cases hsz : c.s.size ≤ 20000
          · have d9 : decide ((c.s.size : Int) ≤ 20000) = true := by simp; omega
            have HSZ := Lib.hid hsz
            clear hsz
            cases S with
            | true =>
              go_wp2_with (go_at_call 30; ((with_reducible refine (refHasSource_any c.k _).mono ?_); rintro e w' ⟨rfl, rfl⟩; rw [HS.out]))
              go_ret
              exact ⟨ret_bool (Cm.right_yes ⟨HK.out, FA.out, FA0.out, FB.out, FB0.out, HSZ.out, fun h => by rw [HS.out] at h; cases h⟩).symm, (below2 w _ _)⟩
            | false =>
              by_cases hem : c.s = ⟨#[]⟩
              · have he1 : c.s.toList = [] := by rw [hem, ByteArray.toList_eq]
                have he2 : c.s.toList.isEmpty = true := by rw [he1]; rfl
                have HEM := Lib.hid hem
                clear hem
                go_wp2_with (go_at_call 30; ((with_reducible refine (refHasSource_any c.k _).mono ?_); rintro e w' ⟨rfl, rfl⟩; rw [HS.out]))
                go_ret
                exact ⟨ret_bool (Cm.right_yes ⟨HK.out, FA.out, FA0.out, FB.out, FB0.out, HSZ.out, fun _ => HEM.out⟩).symm, (below2 w _ _)⟩
              · have he1 : ¬ c.s.toList = [] := fun h => hem (nil_of h)
                have he2 : c.s.toList.isEmpty = false := by cases h : c.s.toList with | nil => exact absurd h he1 | cons a l => rfl
                have HEM := Lib.hid hem
                clear hem
                go_wp2_with (go_at_call 30; ((with_reducible refine (refHasSource_any c.k _).mono ?_); rintro e w' ⟨rfl, rfl⟩; rw [HS.out]))
                go_ret
                exact ⟨ret_bool (Cm.right_no (fun q => HEM.out (q.2.2.2.2.2.2 HS.out))).symm, (below2 w _ _)⟩
          · have d9 : decide ((c.s.size : Int) ≤ 20000) = false := by simp; omega
            have HSZ := Lib.hid hsz
            clear hsz
            go_wp2
            go_ret
            exact ⟨ret_bool (Cm.right_no (fun q => HSZ.out q.2.2.2.2.2.1)).symm, (below2 w _ _)⟩
theorem refCmdRight_any (c : Cm.Cmd) (hma : c.a.p.size ≤ 4194304) (hmb : c.b.p.size ≤ 4194304) (w : World) : Calls Try.prog 12 #[cmdv c] w fun e w' => e = .returned (.bool (Cm.rightB c)) ∧ Below w.heap.size w w' := by
  by_cases h : c.k < 1 ∨ 10 < c.k
  · exact q_low c h w
  by_cases h5 : c.k = 5
  · exact q_five c h5 hma hmb w
  · exact q_else c (by omega) (by omega) h5 hma hmb w
end Go.Proofs.Ytfbfdkjimoomlaa
