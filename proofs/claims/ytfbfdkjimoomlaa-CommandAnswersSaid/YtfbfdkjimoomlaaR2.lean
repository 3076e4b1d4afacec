/- Contract: the document's Encode of any command. -/
import Derived.Test.YtfbfdkjimoomlaaR1
namespace Go.Proofs.Ytfbfdkjimoomlaa
open Go.RowKit
set_option maxRecDepth 100000 in
theorem renc_no (c : Cm.Cmd) (h : Cm.rightB c = false) (hma : c.a.p.size ≤ 4194304) (hmb : c.b.p.size ≤ 4194304) (w : World) : Calls Try.prog 9 #[cmdv c] w fun e w' => e = .returned (.tuple #[.string ⟨#[]⟩, .int .i64 2]) ∧ Below w.heap.size w w' := by
  have H := Lib.hid h
  clear h
  go_enter Try.func9, Try.ntmps9
  go_wp2_with (go_at_call 12; ((with_reducible refine (refCmdRight_any c hma hmb _).mono ?_); rintro e w1 ⟨rfl, hb1⟩; rw [H.out]))
  go_ret2
  exact ⟨rfl, (below_alloc w _).trans (hb1.mono (by rw [World.size_alloc]; exact Nat.le_succ _))⟩
theorem enc_pieces (c : Cm.Cmd) (P O S : Bool) (hP : Cm.hasPin c.k = P) (hO : Cm.hasOther c.k = O) (hS : Cm.hasSource c.k = S) : str (Cm.num c.k ++ ((if P then Cm.pinB c.a else []) ++ ((if O then Cm.pinB c.b else []) ++ (if S then txt c.s else [])))) = str (Cm.encB c) := by
  unfold Cm.encB; rw [hP, hO, hS]
theorem pinB_len (x : Cm.Pn) (h : x.p.size ≤ 20) (hv : (0 ≤ x.v.a ∧ x.v.a ≤ 999999) ∧ (0 ≤ x.v.b ∧ x.v.b ≤ 999999) ∧ 0 ≤ x.v.c ∧ x.v.c ≤ 999999) : (str (Cm.pinB x)).size ≤ 60 := by
  rw [str_size]
  unfold Cm.pinB Cm.num
  simp only [List.length_append, txt_len]
  have h1 := uv_small x.p.size (by omega)
  have h2 := uv_small x.v.a.toNat (by omega)
  have h3 := uv_small x.v.b.toNat (by omega)
  have h4 := uv_small x.v.c.toNat (by omega)
  omega
set_option maxRecDepth 100000 in
set_option maxHeartbeats 4000000 in
theorem renc_yes (c : Cm.Cmd) (h : Cm.rightB c = true) (hma : c.a.p.size ≤ 4194304) (hmb : c.b.p.size ≤ 4194304) (w : World) : Calls Try.prog 9 #[cmdv c] w fun e w' => e = .returned (.tuple #[.string (str (Cm.encB c)), .int .i64 0]) ∧ Below w.heap.size w w' := by
  have HRT := Lib.hid h
  have hr := Cm.right_of h
  clear h
  obtain ⟨⟨hk1, hk2⟩, hp1, hp0, ho1, ho0, hs, hs0⟩ := hr
  have HPV : RowKit.Hid (Cm.hasPin c.k = true → c.a.p.size ≤ 20 ∧ ((0 ≤ c.a.v.a ∧ c.a.v.a ≤ 999999) ∧ (0 ≤ c.a.v.b ∧ c.a.v.b ≤ 999999) ∧ 0 ≤ c.a.v.c ∧ c.a.v.c ≤ 999999)) := Lib.hid (fun h => ⟨Cm.pkg_len (by have := hp1 h; unfold Cm.okOne at this; rw [Bool.and_eq_true] at this; exact this.1), Cm.okOne_v (hp1 h)⟩)
  have HOV : RowKit.Hid (Cm.hasOther c.k = true → c.b.p.size ≤ 20 ∧ ((0 ≤ c.b.v.a ∧ c.b.v.a ≤ 999999) ∧ (0 ≤ c.b.v.b ∧ c.b.v.b ≤ 999999) ∧ 0 ≤ c.b.v.c ∧ c.b.v.c ≤ 999999)) := Lib.hid (fun h => ⟨Cm.pkg_len (by have := ho1 h; unfold Cm.okPin at this; rw [Bool.and_eq_true] at this; exact this.1), Cm.okPin_v (ho1 h)⟩)
  have HHP := Lib.hid (refHasPin_any c.k)
  have HHS := Lib.hid (refHasSource_any c.k)
  obtain ⟨P, hP⟩ : ∃ P, Cm.hasPin c.k = P := ⟨_, rfl⟩
  obtain ⟨O, hO⟩ : ∃ O, Cm.hasOther c.k = O := ⟨_, rfl⟩
  obtain ⟨S, hS⟩ : ∃ S, Cm.hasSource c.k = S := ⟨_, rfl⟩
  have hO6 : (c.k == 6) = O := by
    rw [← hO]; unfold Cm.hasOther
    by_cases h6 : c.k = 6
    · rw [h6]; rfl
    · rw [decide_eq_false h6]; exact beq_no h6
  rw [hP] at HPV HHP
  rw [hO] at HOV
  rw [hS] at HHS
  have HEP := Lib.hid (enc_pieces c P O S hP hO hS)
  have HNUM := Lib.hid (refNumber_any c.k (by omega) (by omega))
  have hsn : (str (Cm.num c.k)).size ≤ 10 := by rw [str_size]; exact uv_small _ (by omega)
  have HSA : ∀ l m, RowKit.Hid (str l ++ str m = str (l ++ m)) := fun l m => Lib.hid (str_append l m)
  clear hp1 hp0 ho1 ho0 hs0 hP hO hS
  go_enter Try.func9, Try.ntmps9
  go_upto_region 3 with (go_at_call 12; ((with_reducible refine (refCmdRight_any c hma hmb _).mono ?_); rintro e w1 ⟨rfl, hb1⟩; rw [HRT.out]; have HB1 := Lib.hid hb1; clear hb1))
  have hz1 : w.heap.size < w1.heap.size := Nat.lt_of_lt_of_le (by simp) HB1.out.size
  have HBW1 : RowKit.Hid (Below w.heap.size w w1) := Lib.hid ((below_alloc w _).trans (HB1.out.mono (by rw [World.size_alloc]; exact Nat.le_succ _)))
  have HC1 : RowKit.Hid (w1.heap[w.heap.size]? = some (.cells (cmdCells c) 27 (0, 0))) := Lib.hid (hb_below (hb_new w _) HB1.out (by simp))
  clear HB1
  obtain ⟨k0, k1, k2, k3, k4, k5, k6, k7, k8, k9⟩ := cmd_cells HC1.out
  go_upto_region 4 with (first | (go_at_call 27; ((with_reducible refine (HNUM.out _).mono ?_); rintro e w2 ⟨rfl, hb2⟩; have HB2 := Lib.hid hb2; clear hb2)) | (go_at_call 28; ((with_reducible refine (HHP.out _).mono ?_); rintro e wx ⟨rfl, rfl⟩)) | (go_at_call 30; ((with_reducible refine (HHS.out _).mono ?_); rintro e wx ⟨rfl, rfl⟩)))
  clear k0 k1 k2 k3 k4 k5 k6 k7 k8 k9
  have hz2 : w.heap.size < w2.heap.size := Nat.lt_of_lt_of_le hz1 HB2.out.size
  have HC2 := Lib.hid (hb_below HC1.out HB2.out hz1)
  have HBW2 : RowKit.Hid (Below w.heap.size w w2) := Lib.hid (HBW1.out.trans (HB2.out.mono HBW1.out.size))
  clear HC1 HBW1 HB2
  obtain ⟨k0, k1, k2, k3, k4, k5, k6, k7, k8, k9⟩ := cmd_cells HC2.out
  cases P with
  | false =>
    go_upto_region 6 with (first | (go_at_call 28; ((with_reducible refine (HHP.out _).mono ?_); rintro e wx ⟨rfl, rfl⟩)) | (go_at_call 30; ((with_reducible refine (HHS.out _).mono ?_); rintro e wx ⟨rfl, rfl⟩)))
    cases O with
    | false =>
      go_upto_region 8 with (first | (go_at_call 28; ((with_reducible refine (HHP.out _).mono ?_); rintro e wx ⟨rfl, rfl⟩)) | (go_at_call 30; ((with_reducible refine (HHS.out _).mono ?_); rintro e wx ⟨rfl, rfl⟩)))
      cases S with
      | false =>
        go_wp2_with (go_at_call 30; ((with_reducible refine (HHS.out _).mono ?_); rintro e wx ⟨rfl, rfl⟩))
        go_ret2
        refine ⟨?_, HBW2.out⟩
        rw [← HEP.out]
        simp [str_append, List.append_assoc]
      | true =>
        have hst : (str (txt c.s)).size ≤ 20010 := by rw [str_size, txt_len]; have := uv_small c.s.size (by omega); omega
        have HTX := Lib.hid (refText_any c.s (by omega))
        go_wp2_with (first | (go_at_call 31; ((with_reducible refine (HTX.out _).mono ?_); rintro e w8 ⟨rfl, hb8⟩)) | (go_at_call 30; ((with_reducible refine (HHS.out _).mono ?_); rintro e wx ⟨rfl, rfl⟩)))
        go_ret2
        refine ⟨?_, HBW2.out.trans (hb8.mono HBW2.out.size)⟩
        rw [← HEP.out]
        simp [str_append, List.append_assoc]
    | true =>
      obtain ⟨hplb, hpvb⟩ := HOV.out rfl
      have hsb := pinB_len c.b hplb hpvb
      have HTB := Lib.hid (fun w => told_any c.b w (by omega) hpvb)
      clear hpvb
      go_upto_region 8 with (first | (go_at_call 29; ((with_reducible refine (HTB.out _).mono ?_); rintro e w6 ⟨rfl, hb6⟩; have HB6 := Lib.hid hb6; clear hb6)) | (go_at_call 28; ((with_reducible refine (HHP.out _).mono ?_); rintro e wx ⟨rfl, rfl⟩)) | (go_at_call 30; ((with_reducible refine (HHS.out _).mono ?_); rintro e wx ⟨rfl, rfl⟩)))
      clear k0 k1 k2 k3 k4 k5 k6 k7 k8 k9
      have hz6 : w.heap.size < w6.heap.size := Nat.lt_of_lt_of_le hz2 HB6.out.size
      have HC6 := Lib.hid (hb_below HC2.out HB6.out hz2)
      have HBW6 : RowKit.Hid (Below w.heap.size w w6) := Lib.hid (HBW2.out.trans (HB6.out.mono HBW2.out.size))
      clear HC2 HBW2 HB6
      obtain ⟨k0, k1, k2, k3, k4, k5, k6, k7, k8, k9⟩ := cmd_cells HC6.out
      have hse : (str (Cm.num c.k) ++ str (Cm.pinB c.b)).size ≤ 70 := by rw [ByteArray.size_append]; omega
      cases S with
      | false =>
        go_wp2_with (go_at_call 30; ((with_reducible refine (HHS.out _).mono ?_); rintro e wx ⟨rfl, rfl⟩))
        go_ret2
        refine ⟨?_, HBW6.out⟩
        rw [← HEP.out]
        simp [str_append, List.append_assoc]
      | true =>
        have hst : (str (txt c.s)).size ≤ 20010 := by rw [str_size, txt_len]; have := uv_small c.s.size (by omega); omega
        have HTX := Lib.hid (refText_any c.s (by omega))
        go_wp2_with (first | (go_at_call 31; ((with_reducible refine (HTX.out _).mono ?_); rintro e w8 ⟨rfl, hb8⟩)) | (go_at_call 30; ((with_reducible refine (HHS.out _).mono ?_); rintro e wx ⟨rfl, rfl⟩)))
        go_ret2
        refine ⟨?_, HBW6.out.trans (hb8.mono HBW6.out.size)⟩
        rw [← HEP.out]
        simp [str_append, List.append_assoc]
  | true =>
    obtain ⟨hpla, hpva⟩ := HPV.out rfl
    have hsa := pinB_len c.a hpla hpva
    have HTA := Lib.hid (fun w => told_any c.a w (by omega) hpva)
    clear hpva
    go_upto_region 6 with (first | (go_at_call 29; ((with_reducible refine (HTA.out _).mono ?_); rintro e w5 ⟨rfl, hb5⟩; have HB5 := Lib.hid hb5; clear hb5)) | (go_at_call 28; ((with_reducible refine (HHP.out _).mono ?_); rintro e wx ⟨rfl, rfl⟩)) | (go_at_call 30; ((with_reducible refine (HHS.out _).mono ?_); rintro e wx ⟨rfl, rfl⟩)))
    clear k0 k1 k2 k3 k4 k5 k6 k7 k8 k9
    have hz5 : w.heap.size < w5.heap.size := Nat.lt_of_lt_of_le hz2 HB5.out.size
    have HC5 := Lib.hid (hb_below HC2.out HB5.out hz2)
    have HBW5 : RowKit.Hid (Below w.heap.size w w5) := Lib.hid (HBW2.out.trans (HB5.out.mono HBW2.out.size))
    clear HC2 HBW2 HB5
    obtain ⟨k0, k1, k2, k3, k4, k5, k6, k7, k8, k9⟩ := cmd_cells HC5.out
    have hsd : (str (Cm.num c.k) ++ str (Cm.pinB c.a)).size ≤ 70 := by rw [ByteArray.size_append]; omega
    cases O with
    | false =>
      go_upto_region 8 with (first | (go_at_call 28; ((with_reducible refine (HHP.out _).mono ?_); rintro e wx ⟨rfl, rfl⟩)) | (go_at_call 30; ((with_reducible refine (HHS.out _).mono ?_); rintro e wx ⟨rfl, rfl⟩)))
      cases S with
      | false =>
        go_wp2_with (go_at_call 30; ((with_reducible refine (HHS.out _).mono ?_); rintro e wx ⟨rfl, rfl⟩))
        go_ret2
        refine ⟨?_, HBW5.out⟩
        rw [← HEP.out]
        simp [str_append, List.append_assoc]
      | true =>
        have hst : (str (txt c.s)).size ≤ 20010 := by rw [str_size, txt_len]; have := uv_small c.s.size (by omega); omega
        have HTX := Lib.hid (refText_any c.s (by omega))
        go_wp2_with (first | (go_at_call 31; ((with_reducible refine (HTX.out _).mono ?_); rintro e w8 ⟨rfl, hb8⟩)) | (go_at_call 30; ((with_reducible refine (HHS.out _).mono ?_); rintro e wx ⟨rfl, rfl⟩)))
        go_ret2
        refine ⟨?_, HBW5.out.trans (hb8.mono HBW5.out.size)⟩
        rw [← HEP.out]
        simp [str_append, List.append_assoc]
    | true =>
      obtain ⟨hplb, hpvb⟩ := HOV.out rfl
      have hsb := pinB_len c.b hplb hpvb
      have HTB := Lib.hid (fun w => told_any c.b w (by omega) hpvb)
      clear hpvb
      go_upto_region 8 with (first | (go_at_call 29; ((with_reducible refine (HTB.out _).mono ?_); rintro e w6 ⟨rfl, hb6⟩; have HB6 := Lib.hid hb6; clear hb6)) | (go_at_call 28; ((with_reducible refine (HHP.out _).mono ?_); rintro e wx ⟨rfl, rfl⟩)) | (go_at_call 30; ((with_reducible refine (HHS.out _).mono ?_); rintro e wx ⟨rfl, rfl⟩)))
      clear k0 k1 k2 k3 k4 k5 k6 k7 k8 k9
      have hz6 : w.heap.size < w6.heap.size := Nat.lt_of_lt_of_le hz5 HB6.out.size
      have HC6 := Lib.hid (hb_below HC5.out HB6.out hz5)
      have HBW6 : RowKit.Hid (Below w.heap.size w w6) := Lib.hid (HBW5.out.trans (HB6.out.mono HBW5.out.size))
      clear HC5 HBW5 HB6
      obtain ⟨k0, k1, k2, k3, k4, k5, k6, k7, k8, k9⟩ := cmd_cells HC6.out
      have hse : (str (Cm.num c.k) ++ str (Cm.pinB c.a) ++ str (Cm.pinB c.b)).size ≤ 130 := by rw [ByteArray.size_append]; omega
      cases S with
      | false =>
        go_wp2_with (go_at_call 30; ((with_reducible refine (HHS.out _).mono ?_); rintro e wx ⟨rfl, rfl⟩))
        go_ret2
        refine ⟨?_, HBW6.out⟩
        rw [← HEP.out]
        simp [str_append, List.append_assoc]
      | true =>
        have hst : (str (txt c.s)).size ≤ 20010 := by rw [str_size, txt_len]; have := uv_small c.s.size (by omega); omega
        have HTX := Lib.hid (refText_any c.s (by omega))
        go_wp2_with (first | (go_at_call 31; ((with_reducible refine (HTX.out _).mono ?_); rintro e w8 ⟨rfl, hb8⟩)) | (go_at_call 30; ((with_reducible refine (HHS.out _).mono ?_); rintro e wx ⟨rfl, rfl⟩)))
        go_ret2
        refine ⟨?_, HBW6.out.trans (hb8.mono HBW6.out.size)⟩
        rw [← HEP.out]
        simp [str_append, List.append_assoc]
theorem refCmdEncode_any (c : Cm.Cmd) (hma : c.a.p.size ≤ 4194304) (hmb : c.b.p.size ≤ 4194304) (w : World) : Calls Try.prog 9 #[cmdv c] w fun e w' => e = .returned (.tuple #[.string (Cm.encS c).1, .int .i64 (Cm.encS c).2]) ∧ Below w.heap.size w w' := by
  rcases h : Cm.rightB c with _ | _
  · rw [Cm.encS_no h]; exact renc_no c h hma hmb w
  · rw [Cm.encS_yes h]; exact renc_yes c h hma hmb w
end Go.Proofs.Ytfbfdkjimoomlaa
