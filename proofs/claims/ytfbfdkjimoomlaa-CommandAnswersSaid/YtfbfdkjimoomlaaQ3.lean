/- Contract: the program's Right of any command. -/
import Derived.Test.YtfbfdkjimoomlaaQ2
namespace Go.Proofs.Ytfbfdkjimoomlaa
open Go.RowKit
set_option maxRecDepth 100000 in
theorem r_low (c : Cm.Cmd) (h : c.k < 1 ∨ 10 < c.k) (w : World) : Calls Try.prog 11 #[cmdv c] w fun e w' => e = .returned (.bool (Cm.rightB c)) ∧ Below w.heap.size w w' := by
  have HR : RowKit.Hid (Cm.rightB c = false) := Lib.hid (Cm.right_no fun q => by have := q.1; omega)
  by_cases h1 : c.k < 1
  · have d1 : decide (c.k < 1) = true := by simpa using h1
    clear h h1
    go_enter Try.func11, Try.ntmps11
    go_wp2
    go_ret
    exact ⟨ret_bool HR.out.symm, below_alloc _ _⟩
  · have d1 : decide (c.k < 1) = false := by simp; omega
    have d2 : decide (10 < c.k) = true := by simp; omega
    clear h h1
    go_enter Try.func11, Try.ntmps11
    go_wp2
    go_ret
    exact ⟨ret_bool HR.out.symm, below_alloc _ _⟩

set_option maxRecDepth 100000 in
set_option maxHeartbeats 4000000 in
theorem r_five (c : Cm.Cmd) (h5 : c.k = 5) (w : World) : Calls Try.prog 11 #[cmdv c] w fun e w' => e = .returned (.bool (Cm.rightB c)) ∧ Below w.heap.size w w' := by
  have HK : RowKit.Hid (1 ≤ c.k ∧ c.k ≤ 10) := Lib.hid (by omega)
  have HP : RowKit.Hid (Cm.hasPin c.k = true) := Lib.hid (by rw [h5]; rfl)
  have HO : RowKit.Hid (Cm.hasOther c.k = false) := Lib.hid (by rw [h5]; rfl)
  have HS : RowKit.Hid (Cm.hasSource c.k = false) := Lib.hid (by rw [h5]; rfl)
  have HOK0 : RowKit.Hid (Sv.pkgB c.a.p.data.toList = true → Cm.okOne c.k c.a = decide (c.a.v = Cm.zV)) := Lib.hid (fun h => by unfold Cm.okOne; rw [h, if_pos h5]; rfl)
  have hq : ∀ (M : Bool), decide (c.a.v = Cm.zV) = M → (Sv.pkgB c.a.p.data.toList = true → Cm.okOne c.k c.a = M) := fun M hm h => by rw [HOK0.out h, hm]
  have qe := fun w => eqV c.a.v Cm.zV _ rfl w
  generalize hM : decide (c.a.v = Cm.zV) = M at *
  have HOK : RowKit.Hid (Sv.pkgB c.a.p.data.toList = true → Cm.okOne c.k c.a = M) := Lib.hid (hq M rfl)
  clear hq HOK0 hM
  rcases hra : Sv.right c.a.v with _ | _
  all_goals
    have HRA := Lib.hid hra
    clear hra
    have d1 : decide (c.k < 1) = false := by rw [h5]; rfl
    have d2 : decide (10 < c.k) = false := by rw [h5]; rfl
    have d5 : (c.k == 5) = true := by rw [h5]; rfl
    have PARTS : ∀ w, Calls Try.prog 23 #[.int .i64 c.k] w fun e w' => e = .returned (.agg #[.bool true, .bool false, .bool false]) ∧ Below w.heap.size w w' := by rw [h5]; exact partsOf_five
    have HPARTS := Lib.hid PARTS
    clear PARTS h5
    go_enter Try.func11, Try.ntmps11
    go_upto_region 5 with (first
      | (go_at_call 23; ((with_reducible refine (HPARTS.out _).mono ?_); rintro e w1 ⟨rfl, hb1⟩; obtain ⟨hc1, hf1⟩ := bcell hb1; have hz1 : w.heap.size < w1.heap.size := Nat.lt_of_lt_of_le (by simp) hb1.size; have HB1 := Lib.hid hb1; clear hb1 hf1))
      | (go_at_call 32; ((with_reducible refine (right_any c.a.v _).mono ?_); rintro e w2 ⟨rfl, hb2⟩; rw [HRA.out]; obtain ⟨hc2, hf2⟩ := bcell hb2; have hz2 : w1.heap.size < w2.heap.size := Nat.lt_of_lt_of_le (by simp) hb2.size; have hz3 : w.heap.size < w2.heap.size := Nat.lt_trans hz1 hz2; have HB2 := Lib.hid hb2; clear hb2 hf2)))
    have HBW2 : RowKit.Hid (Below w.heap.size w w2) := Lib.hid ((((below_alloc w _).trans (HB1.out.mono (by simp))).alloc (Nat.le_of_lt hz1) _).trans (HB2.out.mono (by rw [World.size_alloc]; exact Nat.le_succ_of_le (Nat.le_of_lt hz1))))
    go_upto_region 7 with fail
    have FA0 : RowKit.Hid (Cm.hasPin c.k = false → c.a = Cm.noPin) := Lib.hid (fun h => by rw [HP.out] at h; cases h)
    rcases hka : Sv.pkgB c.a.p.data.toList with _ | _
    · have HKA := Lib.hid hka
      clear hka
      go_wp2_with (first
        | (go_at_call 33; ((with_reducible refine (isPkg_any c.a.p _).mono ?_); rintro e w' ⟨rfl, rfl⟩; rw [HKA.out])))
      go_ret
      exact ⟨ret_bool (Cm.right_no (fun q => by have h := q.2.1 HP.out; unfold Cm.okOne at h; rw [HKA.out] at h; cases h)).symm, HBW2.out⟩
    · have HKA := Lib.hid hka
      clear hka
      cases M with
      | false =>
        go_wp2_with (first
          | (go_at_call 33; ((with_reducible refine (isPkg_any c.a.p _).mono ?_); rintro e w' ⟨rfl, rfl⟩; rw [HKA.out])))
        go_ret
        exact ⟨ret_bool (Cm.right_no (fun q => by have h := q.2.1 HP.out; rw [HOK.out HKA.out] at h; cases h)).symm, HBW2.out⟩
      | true =>
        have FA : RowKit.Hid (Cm.hasPin c.k = true → Cm.okOne c.k c.a = true) := Lib.hid (fun _ => HOK.out HKA.out)
        go_upto_region 9 with (go_at_call 33; ((with_reducible refine (isPkg_any c.a.p _).mono ?_); rintro e w' ⟨rfl, rfl⟩; rw [HKA.out]))
        have FB : RowKit.Hid (Cm.hasOther c.k = true → Cm.okPin c.b = true) := Lib.hid (fun h => by rw [HO.out] at h; cases h)
        rcases hnb : decide (c.b = Cm.noPin) with _ | _
        · have qb := fun w => neP c.b Cm.noPin true hnb w
          have HNB := Lib.hid (of_decide_eq_false hnb)
          clear hnb
          go_wp2
          go_ret
          exact ⟨ret_bool (Cm.right_no (fun q => HNB.out (q.2.2.2.2.1 HO.out))).symm, HBW2.out⟩
        · have qb := fun w => neP c.b Cm.noPin false hnb w
          have FB0 : RowKit.Hid (Cm.hasOther c.k = false → c.b = Cm.noPin) := Lib.hid (fun _ => of_decide_eq_true hnb)
          clear hnb
          go_upto_region 11 with fail
          by_cases hsz : c.s.size ≤ 20000
          · have d9 : decide ((c.s.size : Int) ≤ 20000) = true := by simp; omega
            have HSZ := Lib.hid hsz
            clear hsz
            by_cases hem : c.s = ⟨#[]⟩
            · have he1 : c.s.toList = [] := by rw [hem, ByteArray.toList_eq]
              have he2 : c.s.toList.isEmpty = true := by rw [he1]; rfl
              have HEM := Lib.hid hem
              clear hem
              go_wp2
              go_ret
              exact ⟨ret_bool (Cm.right_yes ⟨HK.out, FA.out, FA0.out, FB.out, FB0.out, HSZ.out, fun _ => HEM.out⟩).symm, HBW2.out⟩
            · have he1 : ¬ c.s.toList = [] := fun h => hem (nil_of h)
              have he2 : c.s.toList.isEmpty = false := by cases h : c.s.toList with | nil => exact absurd h he1 | cons a l => rfl
              have HEM := Lib.hid hem
              clear hem
              go_wp2
              go_ret
              exact ⟨ret_bool (Cm.right_no (fun q => HEM.out (q.2.2.2.2.2.2 HS.out))).symm, HBW2.out⟩
          · have d9 : decide ((c.s.size : Int) ≤ 20000) = false := by simp; omega
            have HSZ := Lib.hid hsz
            clear hsz
            go_wp2
            go_ret
            exact ⟨ret_bool (Cm.right_no (fun q => HSZ.out q.2.2.2.2.2.1)).symm, HBW2.out⟩
set_option maxRecDepth 100000 in
set_option maxHeartbeats 4000000 in
theorem r_else (c : Cm.Cmd) (h1 : 1 ≤ c.k) (h2 : c.k ≤ 10) (h5 : c.k ≠ 5) (w : World) : Calls Try.prog 11 #[cmdv c] w fun e w' => e = .returned (.bool (Cm.rightB c)) ∧ Below w.heap.size w w' := by
  have HK : RowKit.Hid (1 ≤ c.k ∧ c.k ≤ 10) := Lib.hid ⟨h1, h2⟩
  have hp := partsOf_any c.k
  have HP := Lib.hid (rfl : Cm.hasPin c.k = Cm.hasPin c.k)
  have HO := Lib.hid (rfl : Cm.hasOther c.k = Cm.hasOther c.k)
  have HS := Lib.hid (rfl : Cm.hasSource c.k = Cm.hasSource c.k)
  have hq : Sv.pkgB c.a.p.data.toList = true → Cm.okOne c.k c.a = Sv.right c.a.v := fun h => by unfold Cm.okOne; rw [h, if_neg h5]; rfl
  obtain ⟨P, hP⟩ : ∃ P, Cm.hasPin c.k = P := ⟨_, rfl⟩
  obtain ⟨O, hO⟩ : ∃ O, Cm.hasOther c.k = O := ⟨_, rfl⟩
  obtain ⟨S, hS⟩ : ∃ S, Cm.hasSource c.k = S := ⟨_, rfl⟩
  obtain ⟨M, hM⟩ : ∃ M, Sv.right c.a.v = M := ⟨_, rfl⟩
  rw [hP, hO, hS] at hp
  rw [hM] at hq
  clear HP HO HS
  have HP := Lib.hid hP
  have HO := Lib.hid hO
  have HS := Lib.hid hS
  have HRA := Lib.hid hM
  have HOK := Lib.hid hq
  have HPARTS := Lib.hid hp
  have d1 : decide (c.k < 1) = false := by simp; omega
  have d2 : decide (10 < c.k) = false := by simp; omega
  have d5 := beq_no h5
  clear h1 h2 h5 hp hq hP hO hS hM
  go_enter Try.func11, Try.ntmps11
  go_upto_region 5 with (first
    | (go_at_call 23; ((with_reducible refine (HPARTS.out _).mono ?_); rintro e w1 ⟨rfl, hb1⟩; obtain ⟨hc1, hf1⟩ := bcell hb1; have hz1 : w.heap.size < w1.heap.size := Nat.lt_of_lt_of_le (by simp) hb1.size; have HB1 := Lib.hid hb1; clear hb1 hf1))
    | (go_at_call 32; ((with_reducible refine (right_any c.a.v _).mono ?_); rintro e w2 ⟨rfl, hb2⟩; rw [HRA.out]; obtain ⟨hc2, hf2⟩ := bcell hb2; have hz2 : w1.heap.size < w2.heap.size := Nat.lt_of_lt_of_le (by simp) hb2.size; have hz3 : w.heap.size < w2.heap.size := Nat.lt_trans hz1 hz2; have HB2 := Lib.hid hb2; clear hb2 hf2)))
  have HBW2 : RowKit.Hid (Below w.heap.size w w2) := Lib.hid ((((below_alloc w _).trans (HB1.out.mono (by simp))).alloc (Nat.le_of_lt hz1) _).trans (HB2.out.mono (by rw [World.size_alloc]; exact Nat.le_succ_of_le (Nat.le_of_lt hz1))))
  go_upto_region 7 with fail
  cases P with
  | true =>
    have FA0 : RowKit.Hid (Cm.hasPin c.k = false → c.a = Cm.noPin) := Lib.hid (fun h => by rw [HP.out] at h; cases h)
    rcases hka : Sv.pkgB c.a.p.data.toList with _ | _
    · have HKA := Lib.hid hka
      clear hka
      go_wp2_with (first
        | (go_at_call 33; ((with_reducible refine (isPkg_any c.a.p _).mono ?_); rintro e w' ⟨rfl, rfl⟩; rw [HKA.out])))
      go_ret
      exact ⟨ret_bool (Cm.right_no (fun q => by have h := q.2.1 HP.out; unfold Cm.okOne at h; rw [HKA.out] at h; cases h)).symm, HBW2.out⟩
    · have HKA := Lib.hid hka
      clear hka
      cases M with
      | false =>
        go_wp2_with (first
          | (go_at_call 33; ((with_reducible refine (isPkg_any c.a.p _).mono ?_); rintro e w' ⟨rfl, rfl⟩; rw [HKA.out])))
        go_ret
        exact ⟨ret_bool (Cm.right_no (fun q => by have h := q.2.1 HP.out; rw [HOK.out HKA.out] at h; cases h)).symm, HBW2.out⟩
      | true =>
        have FA : RowKit.Hid (Cm.hasPin c.k = true → Cm.okOne c.k c.a = true) := Lib.hid (fun _ => HOK.out HKA.out)
        go_upto_region 9 with (go_at_call 33; ((with_reducible refine (isPkg_any c.a.p _).mono ?_); rintro e w' ⟨rfl, rfl⟩; rw [HKA.out]))
        cases O with
        | true =>
          have FB0 : RowKit.Hid (Cm.hasOther c.k = false → c.b = Cm.noPin) := Lib.hid (fun h => by rw [HO.out] at h; cases h)
          rcases hkb : Sv.pkgB c.b.p.data.toList with _ | _
          · have HKB := Lib.hid hkb
            clear hkb
            go_wp2_with (first
              | (go_at_call 33; ((with_reducible refine (isPkg_any c.b.p _).mono ?_); rintro e w' ⟨rfl, rfl⟩; rw [HKB.out])))
            go_ret
            exact ⟨ret_bool (Cm.right_no (fun q => by have h := q.2.2.2.1 HO.out; unfold Cm.okPin at h; rw [HKB.out] at h; cases h)).symm, HBW2.out⟩
          · have HKB := Lib.hid hkb
            clear hkb
            rcases hrb : Sv.right c.b.v with _ | _
            · have HRB := Lib.hid hrb
              clear hrb
              go_wp2_with (first
                | (go_at_call 33; ((with_reducible refine (isPkg_any c.b.p _).mono ?_); rintro e w' ⟨rfl, rfl⟩; rw [HKB.out]))
                | (go_at_call 32; ((with_reducible refine (right_any c.b.v _).mono ?_); rintro e w3 ⟨rfl, hb3⟩; rw [HRB.out]; obtain ⟨hc3, hf3⟩ := bcell hb3; have hz4 : w1.heap.size < w3.heap.size := Nat.lt_of_lt_of_le hz2 hb3.size; have hz5 : w.heap.size < w3.heap.size := Nat.lt_trans hz1 hz4; have HB3 := Lib.hid hb3; clear hb3 hf3)))
              go_ret
              exact ⟨ret_bool (Cm.right_no (fun q => by have h := q.2.2.2.1 HO.out; unfold Cm.okPin at h; rw [HKB.out, HRB.out] at h; cases h)).symm, (HBW2.out.trans (HB3.out.mono (HBW2.out.size)))⟩
            · have HRB := Lib.hid hrb
              clear hrb
              have FB : RowKit.Hid (Cm.hasOther c.k = true → Cm.okPin c.b = true) := Lib.hid (fun _ => by unfold Cm.okPin; rw [HKB.out, HRB.out]; rfl)
              go_upto_region 11 with (first
                | (go_at_call 33; ((with_reducible refine (isPkg_any c.b.p _).mono ?_); rintro e w' ⟨rfl, rfl⟩; rw [HKB.out]))
                | (go_at_call 32; ((with_reducible refine (right_any c.b.v _).mono ?_); rintro e w3 ⟨rfl, hb3⟩; rw [HRB.out]; obtain ⟨hc3, hf3⟩ := bcell hb3; have hz4 : w1.heap.size < w3.heap.size := Nat.lt_of_lt_of_le hz2 hb3.size; have hz5 : w.heap.size < w3.heap.size := Nat.lt_trans hz1 hz4; have HB3 := Lib.hid hb3; clear hb3 hf3)))
              by_cases hsz : c.s.size ≤ 20000
              · have d9 : decide ((c.s.size : Int) ≤ 20000) = true := by simp; omega
                have HSZ := Lib.hid hsz
                clear hsz
                cases S with
                | true =>
                  go_wp2
                  go_ret
                  exact ⟨ret_bool (Cm.right_yes ⟨HK.out, FA.out, FA0.out, FB.out, FB0.out, HSZ.out, fun h => by rw [HS.out] at h; cases h⟩).symm, (HBW2.out.trans (HB3.out.mono (HBW2.out.size)))⟩
                | false =>
                  by_cases hem : c.s = ⟨#[]⟩
                  · have he1 : c.s.toList = [] := by rw [hem, ByteArray.toList_eq]
                    have he2 : c.s.toList.isEmpty = true := by rw [he1]; rfl
                    have HEM := Lib.hid hem
                    clear hem
                    go_wp2
                    go_ret
                    exact ⟨ret_bool (Cm.right_yes ⟨HK.out, FA.out, FA0.out, FB.out, FB0.out, HSZ.out, fun _ => HEM.out⟩).symm, (HBW2.out.trans (HB3.out.mono (HBW2.out.size)))⟩
                  · have he1 : ¬ c.s.toList = [] := fun h => hem (nil_of h)
                    have he2 : c.s.toList.isEmpty = false := by cases h : c.s.toList with | nil => exact absurd h he1 | cons a l => rfl
                    have HEM := Lib.hid hem
                    clear hem
                    go_wp2
                    go_ret
                    exact ⟨ret_bool (Cm.right_no (fun q => HEM.out (q.2.2.2.2.2.2 HS.out))).symm, (HBW2.out.trans (HB3.out.mono (HBW2.out.size)))⟩
              · have d9 : decide ((c.s.size : Int) ≤ 20000) = false := by simp; omega
                have HSZ := Lib.hid hsz
                clear hsz
                go_wp2
                go_ret
                exact ⟨ret_bool (Cm.right_no (fun q => HSZ.out q.2.2.2.2.2.1)).symm, (HBW2.out.trans (HB3.out.mono (HBW2.out.size)))⟩
        | false =>
          have FB : RowKit.Hid (Cm.hasOther c.k = true → Cm.okPin c.b = true) := Lib.hid (fun h => by rw [HO.out] at h; cases h)
          rcases hnb : decide (c.b = Cm.noPin) with _ | _
          · have qb := fun w => neP c.b Cm.noPin true hnb w
            have HNB := Lib.hid (of_decide_eq_false hnb)
            clear hnb
            go_wp2
            go_ret
            exact ⟨ret_bool (Cm.right_no (fun q => HNB.out (q.2.2.2.2.1 HO.out))).symm, HBW2.out⟩
          · have qb := fun w => neP c.b Cm.noPin false hnb w
            have FB0 : RowKit.Hid (Cm.hasOther c.k = false → c.b = Cm.noPin) := Lib.hid (fun _ => of_decide_eq_true hnb)
            clear hnb
            go_upto_region 11 with fail
            by_cases hsz : c.s.size ≤ 20000
            · have d9 : decide ((c.s.size : Int) ≤ 20000) = true := by simp; omega
              have HSZ := Lib.hid hsz
              clear hsz
              cases S with
              | true =>
                go_wp2
                go_ret
                exact ⟨ret_bool (Cm.right_yes ⟨HK.out, FA.out, FA0.out, FB.out, FB0.out, HSZ.out, fun h => by rw [HS.out] at h; cases h⟩).symm, HBW2.out⟩
              | false =>
                by_cases hem : c.s = ⟨#[]⟩
                · have he1 : c.s.toList = [] := by rw [hem, ByteArray.toList_eq]
                  have he2 : c.s.toList.isEmpty = true := by rw [he1]; rfl
                  have HEM := Lib.hid hem
                  clear hem
                  go_wp2
                  go_ret
                  exact ⟨ret_bool (Cm.right_yes ⟨HK.out, FA.out, FA0.out, FB.out, FB0.out, HSZ.out, fun _ => HEM.out⟩).symm, HBW2.out⟩
                · have he1 : ¬ c.s.toList = [] := fun h => hem (nil_of h)
                  have he2 : c.s.toList.isEmpty = false := by cases h : c.s.toList with | nil => exact absurd h he1 | cons a l => rfl
                  have HEM := Lib.hid hem
                  clear hem
                  go_wp2
                  go_ret
                  exact ⟨ret_bool (Cm.right_no (fun q => HEM.out (q.2.2.2.2.2.2 HS.out))).symm, HBW2.out⟩
            · have d9 : decide ((c.s.size : Int) ≤ 20000) = false := by simp; omega
              have HSZ := Lib.hid hsz
              clear hsz
              go_wp2
              go_ret
              exact ⟨ret_bool (Cm.right_no (fun q => HSZ.out q.2.2.2.2.2.1)).symm, HBW2.out⟩
  | false =>
    have FA : RowKit.Hid (Cm.hasPin c.k = true → Cm.okOne c.k c.a = true) := Lib.hid (fun h => by rw [HP.out] at h; cases h)
    rcases hna : decide (c.a = Cm.noPin) with _ | _
    · have qa := fun w => neP c.a Cm.noPin true hna w
      have HNA := Lib.hid (of_decide_eq_false hna)
      clear hna
      go_wp2
      go_ret
      exact ⟨ret_bool (Cm.right_no (fun q => HNA.out (q.2.2.1 HP.out))).symm, HBW2.out⟩
    · have qa := fun w => neP c.a Cm.noPin false hna w
      have FA0 : RowKit.Hid (Cm.hasPin c.k = false → c.a = Cm.noPin) := Lib.hid (fun _ => of_decide_eq_true hna)
      clear hna
      go_upto_region 9 with fail
      cases O with
      | true =>
        have FB0 : RowKit.Hid (Cm.hasOther c.k = false → c.b = Cm.noPin) := Lib.hid (fun h => by rw [HO.out] at h; cases h)
        rcases hkb : Sv.pkgB c.b.p.data.toList with _ | _
        · have HKB := Lib.hid hkb
          clear hkb
          go_wp2_with (first
            | (go_at_call 33; ((with_reducible refine (isPkg_any c.b.p _).mono ?_); rintro e w' ⟨rfl, rfl⟩; rw [HKB.out])))
          go_ret
          exact ⟨ret_bool (Cm.right_no (fun q => by have h := q.2.2.2.1 HO.out; unfold Cm.okPin at h; rw [HKB.out] at h; cases h)).symm, HBW2.out⟩
        · have HKB := Lib.hid hkb
          clear hkb
          rcases hrb : Sv.right c.b.v with _ | _
          · have HRB := Lib.hid hrb
            clear hrb
            go_wp2_with (first
              | (go_at_call 33; ((with_reducible refine (isPkg_any c.b.p _).mono ?_); rintro e w' ⟨rfl, rfl⟩; rw [HKB.out]))
              | (go_at_call 32; ((with_reducible refine (right_any c.b.v _).mono ?_); rintro e w3 ⟨rfl, hb3⟩; rw [HRB.out]; obtain ⟨hc3, hf3⟩ := bcell hb3; have hz4 : w1.heap.size < w3.heap.size := Nat.lt_of_lt_of_le hz2 hb3.size; have hz5 : w.heap.size < w3.heap.size := Nat.lt_trans hz1 hz4; have HB3 := Lib.hid hb3; clear hb3 hf3)))
            go_ret
            exact ⟨ret_bool (Cm.right_no (fun q => by have h := q.2.2.2.1 HO.out; unfold Cm.okPin at h; rw [HKB.out, HRB.out] at h; cases h)).symm, (HBW2.out.trans (HB3.out.mono (HBW2.out.size)))⟩
          · have HRB := Lib.hid hrb
            clear hrb
            have FB : RowKit.Hid (Cm.hasOther c.k = true → Cm.okPin c.b = true) := Lib.hid (fun _ => by unfold Cm.okPin; rw [HKB.out, HRB.out]; rfl)
            go_upto_region 11 with (first
              | (go_at_call 33; ((with_reducible refine (isPkg_any c.b.p _).mono ?_); rintro e w' ⟨rfl, rfl⟩; rw [HKB.out]))
              | (go_at_call 32; ((with_reducible refine (right_any c.b.v _).mono ?_); rintro e w3 ⟨rfl, hb3⟩; rw [HRB.out]; obtain ⟨hc3, hf3⟩ := bcell hb3; have hz4 : w1.heap.size < w3.heap.size := Nat.lt_of_lt_of_le hz2 hb3.size; have hz5 : w.heap.size < w3.heap.size := Nat.lt_trans hz1 hz4; have HB3 := Lib.hid hb3; clear hb3 hf3)))
            by_cases hsz : c.s.size ≤ 20000
            · have d9 : decide ((c.s.size : Int) ≤ 20000) = true := by simp; omega
              have HSZ := Lib.hid hsz
              clear hsz
              cases S with
              | true =>
                go_wp2
                go_ret
                exact ⟨ret_bool (Cm.right_yes ⟨HK.out, FA.out, FA0.out, FB.out, FB0.out, HSZ.out, fun h => by rw [HS.out] at h; cases h⟩).symm, (HBW2.out.trans (HB3.out.mono (HBW2.out.size)))⟩
              | false =>
                by_cases hem : c.s = ⟨#[]⟩
                · have he1 : c.s.toList = [] := by rw [hem, ByteArray.toList_eq]
                  have he2 : c.s.toList.isEmpty = true := by rw [he1]; rfl
                  have HEM := Lib.hid hem
                  clear hem
                  go_wp2
                  go_ret
                  exact ⟨ret_bool (Cm.right_yes ⟨HK.out, FA.out, FA0.out, FB.out, FB0.out, HSZ.out, fun _ => HEM.out⟩).symm, (HBW2.out.trans (HB3.out.mono (HBW2.out.size)))⟩
                · have he1 : ¬ c.s.toList = [] := fun h => hem (nil_of h)
                  have he2 : c.s.toList.isEmpty = false := by cases h : c.s.toList with | nil => exact absurd h he1 | cons a l => rfl
                  have HEM := Lib.hid hem
                  clear hem
                  go_wp2
                  go_ret
                  exact ⟨ret_bool (Cm.right_no (fun q => HEM.out (q.2.2.2.2.2.2 HS.out))).symm, (HBW2.out.trans (HB3.out.mono (HBW2.out.size)))⟩
            · have d9 : decide ((c.s.size : Int) ≤ 20000) = false := by simp; omega
              have HSZ := Lib.hid hsz
              clear hsz
              go_wp2
              go_ret
              exact ⟨ret_bool (Cm.right_no (fun q => HSZ.out q.2.2.2.2.2.1)).symm, (HBW2.out.trans (HB3.out.mono (HBW2.out.size)))⟩
      | false =>
        have FB : RowKit.Hid (Cm.hasOther c.k = true → Cm.okPin c.b = true) := Lib.hid (fun h => by rw [HO.out] at h; cases h)
        rcases hnb : decide (c.b = Cm.noPin) with _ | _
        · have qb := fun w => neP c.b Cm.noPin true hnb w
          have HNB := Lib.hid (of_decide_eq_false hnb)
          clear hnb
          go_wp2
          go_ret
          exact ⟨ret_bool (Cm.right_no (fun q => HNB.out (q.2.2.2.2.1 HO.out))).symm, HBW2.out⟩
        · have qb := fun w => neP c.b Cm.noPin false hnb w
          have FB0 : RowKit.Hid (Cm.hasOther c.k = false → c.b = Cm.noPin) := Lib.hid (fun _ => of_decide_eq_true hnb)
          clear hnb
          go_upto_region 11 with fail
          by_cases hsz : c.s.size ≤ 20000
          · have d9 : decide ((c.s.size : Int) ≤ 20000) = true := by simp; omega
            have HSZ := Lib.hid hsz
            clear hsz
            cases S with
            | true =>
              go_wp2
              go_ret
              exact ⟨ret_bool (Cm.right_yes ⟨HK.out, FA.out, FA0.out, FB.out, FB0.out, HSZ.out, fun h => by rw [HS.out] at h; cases h⟩).symm, HBW2.out⟩
            | false =>
              by_cases hem : c.s = ⟨#[]⟩
              · have he1 : c.s.toList = [] := by rw [hem, ByteArray.toList_eq]
                have he2 : c.s.toList.isEmpty = true := by rw [he1]; rfl
                have HEM := Lib.hid hem
                clear hem
                go_wp2
                go_ret
                exact ⟨ret_bool (Cm.right_yes ⟨HK.out, FA.out, FA0.out, FB.out, FB0.out, HSZ.out, fun _ => HEM.out⟩).symm, HBW2.out⟩
              · have he1 : ¬ c.s.toList = [] := fun h => hem (nil_of h)
                have he2 : c.s.toList.isEmpty = false := by cases h : c.s.toList with | nil => exact absurd h he1 | cons a l => rfl
                have HEM := Lib.hid hem
                clear hem
                go_wp2
                go_ret
                exact ⟨ret_bool (Cm.right_no (fun q => HEM.out (q.2.2.2.2.2.2 HS.out))).symm, HBW2.out⟩
          · have d9 : decide ((c.s.size : Int) ≤ 20000) = false := by simp; omega
            have HSZ := Lib.hid hsz
            clear hsz
            go_wp2
            go_ret
            exact ⟨ret_bool (Cm.right_no (fun q => HSZ.out q.2.2.2.2.2.1)).symm, HBW2.out⟩
theorem cmdRight_any (c : Cm.Cmd) (w : World) : Calls Try.prog 11 #[cmdv c] w fun e w' => e = .returned (.bool (Cm.rightB c)) ∧ Below w.heap.size w w' := by
  by_cases h : c.k < 1 ∨ 10 < c.k
  · exact r_low c h w
  by_cases h5 : c.k = 5
  · exact r_five c h5 w
  · exact r_else c (by omega) (by omega) h5 w
end Go.Proofs.Ytfbfdkjimoomlaa
