/- A token, as the document tells it; the document's token at the beginning. -/
import Derived.Test.YtpedmkdpbdhenaaGreatDoorNf
namespace Go.Proofs.YtpedmkdpbdhenaaGreatDoor
open Go.RowKit
set_option linter.unusedSimpArgs false
set_option linter.unusedVariables false
theorem named0_any (s : ByteArray) (hm : s.size ≤ 4194304) (w : World) : Calls Tryz.prog 41 #[.string s, .int .i64 0, .bool true] w fun e w' => e = .returned (.int .i64 (cnt nmB s.data.toList : Nat)) ∧ w = w' := by
  have h := namedQ_any s hm 0 (Nat.zero_le _) w
  rw [List.drop_zero] at h
  exact h
theorem named1_any (s : ByteArray) (hm : s.size ≤ 4194304) (h1 : 1 ≤ s.size) (w : World) : Calls Tryz.prog 41 #[.string s, .int .i64 1, .bool false] w fun e w' => e = .returned (.int .i64 (cnt vrB (s.data.toList.drop 1) : Nat)) ∧ w = w' := namedN_any s hm 1 h1 w
theorem digitsB_any (s : ByteArray) (hm : s.size ≤ 4194304) (h1 : 1 ≤ s.size) (w : World) : Calls Tryz.prog 45 #[.string s, .int .i64 1] w fun e w' => e = .returned (.int .i64 (cnt dgB (s.data.toList.drop 1) : Nat)) ∧ w = w' := digits_any s hm 1 h1 w
set_option maxHeartbeats 4000000 in
set_option maxRecDepth 100000 in
theorem told_doc (t : Tk) (a : Int) (hm : t.s.size ≤ 4194304) (hf : t.k = 4 → -999999999999999999 ≤ t.n ∧ t.n ≤ 999999999999999999) (w : World) :
    Calls Tryz.prog 17 #[t.v a] w fun e w' => e = .returned (.string (ofL (tellT t))) ∧ Below w.heap.size w w' := by
  obtain ⟨k, s, n⟩ := t
  have hm' : s.size ≤ 4194304 := hm
  have hf' : k = 4 → -999999999999999999 ≤ n ∧ n ≤ 999999999999999999 := hf
  clear hm hf
  unfold Tk.v
  show Calls Tryz.prog 17 #[.agg #[.int .i64 k, .string s, .int .i64 n, .int .i64 a]] w _
  by_cases h3 : k = 3
  · subst h3
    have he : tellT ⟨3, s, n⟩ = 39 :: s.data.toList := rfl
    have hs : (⟨#[39]⟩ : ByteArray) ++ s = ofL (39 :: s.data.toList) := str_add _ _
    rw [he]
    go_enter Tryz.func17, Tryz.ntmps17
    go_wp2
    go_ret
    exact ⟨rfl, below_alloc w _⟩
  by_cases h4 : k = 4
  · subst h4
    obtain ⟨hf0, hf1⟩ := hf' rfl
    have he : tellT ⟨4, s, n⟩ = Lib.itoa n := rfl
    rw [he]
    clear he hf'
    by_cases hn : n < 0
    · obtain ⟨m, rfl⟩ : ∃ m : Nat, n = -(m : Int) := ⟨n.natAbs, by omega⟩
      have hm1 : 1 ≤ m := by omega
      have hm2 : m ≤ 999999999999999999 := by omega
      have HD := Lib.hid (fun W => dec_any m hm2 W)
      have HIT : RowKit.Hid (Lib.itoa (-(m : Int)) = 45 :: Lib.decDigits m) := Lib.hid (Lib.itoa_neg m hm1)
      have hz : -(-(m : Int) + 1) + 1 = (m : Int) := by omega
      have hz2 : -1 + (m : Int) + 1 = (m : Int) := by omega
      have hl := Sv.dd_len 18 m (by omega)
      have HST : RowKit.Hid ((⟨#[45]⟩ : ByteArray) ++ ofL (Lib.decDigits m) = ofL (45 :: Lib.decDigits m)) := Lib.hid (ofL_app [45] _)
      generalize Lib.decDigits m = D at *
      go_enter Tryz.func17, Tryz.ntmps17
      go_wp2_with (go_at_call 26; first | (with_reducible refine (HD.out _).mono ?_; rintro e w1 ⟨rfl, hb⟩) | (rw [hz]; with_reducible refine (HD.out _).mono ?_; rintro e w1 ⟨rfl, hb⟩) | (rw [show ∀ x : Int, x = (m : Int) → x = (m : Int) from fun _ h => h]; with_reducible refine (HD.out _).mono ?_; rintro e w1 ⟨rfl, hb⟩))
      go_ret
      refine ⟨?_, (below_alloc w _).trans (hb.mono (by simp))⟩
      rw [HIT.out]
      exact congrArg (fun b => Ending.returned (.string b)) HST.out
    · obtain ⟨m, rfl⟩ : ∃ m : Nat, n = (m : Int) := ⟨n.toNat, by omega⟩
      have hm2 : m ≤ 999999999999999999 := by omega
      have HD := Lib.hid (fun W => dec_any m hm2 W)
      have HIT : RowKit.Hid (Lib.itoa (m : Int) = Lib.decDigits m) := Lib.hid (Lib.itoa_nonneg m)
      have hn' : ¬ (m : Int) < 0 := hn
      generalize Lib.decDigits m = D at *
      go_enter Tryz.func17, Tryz.ntmps17
      go_wp2_with (go_at_call 26; with_reducible refine (HD.out _).mono ?_; rintro e w1 ⟨rfl, hb⟩)
      go_ret
      exact ⟨by rw [HIT.out]; rfl, (below_alloc w _).trans (hb.mono (by simp))⟩
  by_cases h5 : k = 5
  · subst h5
    have he : tellT ⟨5, s, n⟩ = telL s.data.toList := rfl
    rw [he]
    have HI := Lib.hid (fun W => textT_doc s hm' W)
    go_enter Tryz.func17, Tryz.ntmps17
    go_wp2_with (go_at_call 27; refine (HI.out _).mono ?_; rintro e w1 ⟨rfl, rfl⟩)
    go_ret
    exact ⟨rfl, below_alloc w _⟩
  have he : ofL (tellT ⟨k, s, n⟩) = s := by
    unfold tellT
    rw [if_neg h3, if_neg h4, if_neg h5]
  rw [he]
  clear he
  have d3 : (k == 3) = false := by rw [beq_eq_false_iff_ne]; exact h3
  have d4 : (k == 4) = false := by rw [beq_eq_false_iff_ne]; exact h4
  have d5 : (k == 5) = false := by rw [beq_eq_false_iff_ne]; exact h5
  go_enter Tryz.func17, Tryz.ntmps17
  go_wp2
  go_ret
  exact ⟨rfl, below_alloc w _⟩
theorem ext0 (s : ByteArray) (k : Nat) : s.extract 0 k = ofL (s.data.toList.take k) := by
  apply toList_inj
  rw [take_list, ByteArray.toList_eq]
theorem take2_at {s : ByteArray} (h : 1 < s.size) (h0 : s[0].toNat = 45) : s.data.toList.take 2 = [45, 62] ↔ s[1].toNat = 62 := by
  have h1 := take_one (at_list s 0 (by omega))
  have h2 := take_one (at_list s 1 h)
  rw [h1] at h2
  simp only [List.take_zero, List.nil_append, List.singleton_append] at h2
  have e0 : s[0] = 45 := u8 h0 (by decide)
  have h3 : s.data.toList.take 2 = [s[0], s[1]] := h2
  rw [h3, e0]
  constructor
  · intro h
    have : s[1] = 62 := by simpa using h
    rw [this]
    rfl
  · intro h
    have : s[1] = 62 := u8 h (by decide)
    rw [this]
theorem ps_small (s : ByteArray) (h : s.size ≤ 1) : s.data.toList.take 2 ≠ [45, 62] := by
  intro e
  have := congrArg List.length e
  rw [List.length_take, len_list] at this
  simp at this
  omega
set_option maxHeartbeats 8000000 in
set_option maxRecDepth 100000 in
theorem one_name (s : ByteArray) (hm : s.size ≤ 4194304) (h0 : 0 < s.size) (hc : (smB s[0] || grB s[0] || decide (s[0].toNat = 95)) = true) (w : World) :
    Calls Tryz.prog 19 #[.string s, .int .i64 0] w fun e w' => e = .returned (.tuple #[(nameD s.data.toList (grB s[0])).1.v 0, .int .i64 (nameD s.data.toList (grB s[0])).2]) ∧ Below w.heap.size w w' := by
  have hci : (0 : Int) < (s.size : Int) := by omega
  have HS := Lib.hid (fun W => smD_any s[0] W)
  have HG := Lib.hid (fun W => grD_any s[0] W)
  have HN := Lib.hid (fun W => named0_any s hm W)
  have hle := cnt_le nmB s.data.toList
  rw [len_list] at hle
  have hE : nameD s.data.toList (grB s[0]) = (if 30 < cnt nmB s.data.toList then (tk0, 0) else if grB s[0] = true then (⟨2, s.extract 0 (cnt nmB s.data.toList), 0⟩, cnt nmB s.data.toList)
      else if s.extract 0 (cnt nmB s.data.toList) = ⟨#[95]⟩ then (⟨8, s.extract 0 (cnt nmB s.data.toList), 0⟩, cnt nmB s.data.toList)
      else if keyB (s.extract 0 (cnt nmB s.data.toList)) = true then (⟨7, s.extract 0 (cnt nmB s.data.toList), 0⟩, cnt nmB s.data.toList)
      else (⟨1, s.extract 0 (cnt nmB s.data.toList), 0⟩, cnt nmB s.data.toList)) := by
    unfold nameD
    rw [ext0]
    have hi : (s.data.toList.take (cnt nmB s.data.toList) = [95]) = (ofL (s.data.toList.take (cnt nmB s.data.toList)) = ⟨#[95]⟩) := propext ⟨fun h => by rw [h], fun h => congrArg (fun b : ByteArray => b.data.toList) h⟩
    simp only [hi]
  rw [hE]
  clear hE
  generalize cnt nmB s.data.toList = n at *
  have hni : (n : Int) ≤ (s.size : Int) := by omega
  obtain ⟨T, hT⟩ : ∃ T, s.extract 0 n = T := ⟨_, rfl⟩
  have hTs : T.size ≤ 4194304 := by rw [← hT, ByteArray.size_extract]; omega
  have HK := Lib.hid (fun W => keywords_any W)
  have HIN := Lib.hid (fun v W (h : SAt W v keyL) => inD_any T v keyL W h (by decide))
  rw [key_in] at HIN
  rw [hT]
  have h95 : ((s[0].toNat : Int) == 95) = decide (s[0].toNat = 95) := by
    rw [Bool.eq_iff_iff, beq_iff_eq, decide_eq_true_eq]
    omega
  rcases (Bool.eq_false_or_eq_true (smB s[0])) with hs | hs <;> rcases (Bool.eq_false_or_eq_true (grB s[0])) with hg | hg
  · exact absurd (sm_far hs).1 (by rw [hg]; simp)
  · have e95 : ((s[0].toNat : Int) == 95) = false := by rw [h95]; simpa using (sm_far hs).2.1
    rw [hs] at HS
    rw [hg] at HG ⊢
    clear hc h95 hs hg
    by_cases h30 : 30 < n
    · rw [if_pos h30]
      have d30 : decide ((30 : Int) < (n : Int)) = true := by simp; omega
      clear h30
      go_enter Tryz.func19, Tryz.ntmps19
      go_wp2_with (first
        | (go_at_call 39; with_reducible refine (HS.out _).mono ?_; rintro e w1 ⟨rfl, rfl⟩)
        | (go_at_call 40; with_reducible refine (HG.out _).mono ?_; rintro e w1 ⟨rfl, rfl⟩)
        | (go_at_call 41; with_reducible refine (HN.out _).mono ?_; rintro e w1 ⟨rfl, rfl⟩))
      have hB : Below w.heap.size w _ := below_alloc w (.cells #[.int .i64 0, .string ⟨#[]⟩, .int .i64 0, .int .i64 0] 32)
      have k0 := hb_new w (.cells #[.int .i64 0, .string ⟨#[]⟩, .int .i64 0, .int .i64 0] 32)
      have r0 := hb_at k0 0 rfl
      have r1 := hb_at k0 1 rfl
      have r2 := hb_at k0 2 rfl
      have r3 := hb_at k0 3 rfl
      exact bodyPost_ret (v := .tuple #[tk0.v 0, .int .i64 0]) (by simp [results, Tryz.results19, go_sem, r0, r1, r2, r3, tk0, Tk.v]) rfl ⟨rfl, by first | exact hB | exact below_alloc w _ | exact (((hB.setCell (by simp) _).setCell (by simp) _).setCell (by simp) _).setCell (by simp) _⟩
    rw [if_neg h30]
    have d30 : decide ((30 : Int) < (n : Int)) = false := by simp; omega
    clear h30
    rw [if_neg (by simp : ¬ (false = true))]
    by_cases ht : T = ⟨#[95]⟩
    · rw [if_pos ht]
      have dt : (T.toList == [95]) = true := by rw [ht, ByteArray.toList_eq]; rfl
      clear ht
      go_enter Tryz.func19, Tryz.ntmps19
      go_wp2_with (first
        | (go_at_call 39; with_reducible refine (HS.out _).mono ?_; rintro e w1 ⟨rfl, rfl⟩)
        | (go_at_call 40; with_reducible refine (HG.out _).mono ?_; rintro e w1 ⟨rfl, rfl⟩)
        | (go_at_call 41; with_reducible refine (HN.out _).mono ?_; rintro e w1 ⟨rfl, rfl⟩))
      have hB : Below w.heap.size w _ := below_alloc w (.cells #[.int .i64 0, .string ⟨#[]⟩, .int .i64 0, .int .i64 0] 32)
      have k0 := hb_new w (.cells #[.int .i64 0, .string ⟨#[]⟩, .int .i64 0, .int .i64 0] 32)
      have r0 := hb_at k0 0 rfl
      have r1 := hb_at k0 1 rfl
      have r2 := hb_at k0 2 rfl
      have r3 := hb_at k0 3 rfl
      exact bodyPost_ret (v := .tuple #[Tk.v ⟨8, T, 0⟩ 0, .int .i64 n]) (by simp [results, Tryz.results19, go_sem, r0, r1, r2, r3, tk0, Tk.v]) rfl ⟨rfl, by first | exact hB | exact below_alloc w _ | exact (((hB.setCell (by simp) _).setCell (by simp) _).setCell (by simp) _).setCell (by simp) _⟩
    rw [if_neg ht]
    have dt : (T.toList == [95]) = false := by rw [beq_eq_false_iff_ne]; exact fun e => ht (toList_inj (b := ⟨#[95]⟩) (by rw [e, ByteArray.toList_eq]))
    clear ht
    cases hk : keyB T
    · rw [hk] at HIN
      rw [if_neg (by simp : ¬ (false = true))]
      clear hk
      go_enter Tryz.func19, Tryz.ntmps19
      go_wp2_with (first
        | (go_at_call 39; with_reducible refine (HS.out _).mono ?_; rintro e w1 ⟨rfl, rfl⟩)
        | (go_at_call 40; with_reducible refine (HG.out _).mono ?_; rintro e w1 ⟨rfl, rfl⟩)
        | (go_at_call 41; with_reducible refine (HN.out _).mono ?_; rintro e w1 ⟨rfl, rfl⟩)
        | (go_at_call 13; with_reducible refine (HK.out _).mono ?_; rintro e w2 ⟨ck, rfl, hsat, hb2⟩; rw [World.size_alloc] at hsat ⊢; have HSAT := Lib.hid hsat; have HB2 := Lib.hid hb2; have z2 := hb2.size; rw [World.size_alloc] at z2; have y2 : w.heap.size < w2.heap.size := (by omega); have k2 := hb_below (hb_new w (.cells #[.int .i64 0, .string ⟨#[]⟩, .int .i64 0, .int .i64 0] 32)) hb2 (by simp); have f0 := hb_free k2 0; have f1 := hb_free k2 1; have f2 := hb_free k2 2; have f3 := hb_free k2 3; have r0 := hb_at k2 0 rfl; have r1 := hb_at k2 1 rfl; have r2 := hb_at k2 2 rfl; have r3 := hb_at k2 3 rfl; clear k2; clear hsat hb2)
        | (go_at_call 12; with_reducible refine (HIN.out _ _ HSAT.out).mono ?_; rintro e w3 ⟨rfl, rfl⟩))
      have hB : Below w.heap.size w _ := (below_alloc w (.cells #[.int .i64 0, .string ⟨#[]⟩, .int .i64 0, .int .i64 0] 32)).trans (HB2.out.mono (by simp))
      have k0 := hb_below (hb_new w (.cells #[.int .i64 0, .string ⟨#[]⟩, .int .i64 0, .int .i64 0] 32)) HB2.out (by simp)
      have r0 := hb_at k0 0 rfl
      have r1 := hb_at k0 1 rfl
      have r2 := hb_at k0 2 rfl
      have r3 := hb_at k0 3 rfl
      exact bodyPost_ret (v := .tuple #[Tk.v ⟨1, T, 0⟩ 0, .int .i64 n]) (by simp [results, Tryz.results19, go_sem, r0, r1, r2, r3, tk0, Tk.v]) rfl ⟨rfl, by first | exact hB | exact below_alloc w _ | exact (((hB.setCell (by simp) _).setCell (by simp) _).setCell (by simp) _).setCell (by simp) _⟩
    · rw [hk] at HIN
      rw [if_pos rfl]
      clear hk
      go_enter Tryz.func19, Tryz.ntmps19
      go_wp2_with (first
        | (go_at_call 39; with_reducible refine (HS.out _).mono ?_; rintro e w1 ⟨rfl, rfl⟩)
        | (go_at_call 40; with_reducible refine (HG.out _).mono ?_; rintro e w1 ⟨rfl, rfl⟩)
        | (go_at_call 41; with_reducible refine (HN.out _).mono ?_; rintro e w1 ⟨rfl, rfl⟩)
        | (go_at_call 13; with_reducible refine (HK.out _).mono ?_; rintro e w2 ⟨ck, rfl, hsat, hb2⟩; rw [World.size_alloc] at hsat ⊢; have HSAT := Lib.hid hsat; have HB2 := Lib.hid hb2; have z2 := hb2.size; rw [World.size_alloc] at z2; have y2 : w.heap.size < w2.heap.size := (by omega); have k2 := hb_below (hb_new w (.cells #[.int .i64 0, .string ⟨#[]⟩, .int .i64 0, .int .i64 0] 32)) hb2 (by simp); have f0 := hb_free k2 0; have f1 := hb_free k2 1; have f2 := hb_free k2 2; have f3 := hb_free k2 3; have r0 := hb_at k2 0 rfl; have r1 := hb_at k2 1 rfl; have r2 := hb_at k2 2 rfl; have r3 := hb_at k2 3 rfl; clear k2; clear hsat hb2)
        | (go_at_call 12; with_reducible refine (HIN.out _ _ HSAT.out).mono ?_; rintro e w3 ⟨rfl, rfl⟩))
      have hB : Below w.heap.size w _ := (below_alloc w (.cells #[.int .i64 0, .string ⟨#[]⟩, .int .i64 0, .int .i64 0] 32)).trans (HB2.out.mono (by simp))
      have k0 := hb_below (hb_new w (.cells #[.int .i64 0, .string ⟨#[]⟩, .int .i64 0, .int .i64 0] 32)) HB2.out (by simp)
      have r0 := hb_at k0 0 rfl
      have r1 := hb_at k0 1 rfl
      have r2 := hb_at k0 2 rfl
      have r3 := hb_at k0 3 rfl
      exact bodyPost_ret (v := .tuple #[Tk.v ⟨7, T, 0⟩ 0, .int .i64 n]) (by simp [results, Tryz.results19, go_sem, r0, r1, r2, r3, tk0, Tk.v]) rfl ⟨rfl, by first | exact hB | exact below_alloc w _ | exact (((hB.setCell (by simp) _).setCell (by simp) _).setCell (by simp) _).setCell (by simp) _⟩
  · have e95 : ((s[0].toNat : Int) == 95) = false := by rw [h95]; simpa using (gr_far hg).2.1
    rw [hs] at HS
    rw [hg] at HG ⊢
    clear hc h95 hs hg
    by_cases h30 : 30 < n
    · rw [if_pos h30]
      have d30 : decide ((30 : Int) < (n : Int)) = true := by simp; omega
      clear h30
      go_enter Tryz.func19, Tryz.ntmps19
      go_wp2_with (first
        | (go_at_call 39; with_reducible refine (HS.out _).mono ?_; rintro e w1 ⟨rfl, rfl⟩)
        | (go_at_call 40; with_reducible refine (HG.out _).mono ?_; rintro e w1 ⟨rfl, rfl⟩)
        | (go_at_call 41; with_reducible refine (HN.out _).mono ?_; rintro e w1 ⟨rfl, rfl⟩))
      have hB : Below w.heap.size w _ := below_alloc w (.cells #[.int .i64 0, .string ⟨#[]⟩, .int .i64 0, .int .i64 0] 32)
      have k0 := hb_new w (.cells #[.int .i64 0, .string ⟨#[]⟩, .int .i64 0, .int .i64 0] 32)
      have r0 := hb_at k0 0 rfl
      have r1 := hb_at k0 1 rfl
      have r2 := hb_at k0 2 rfl
      have r3 := hb_at k0 3 rfl
      exact bodyPost_ret (v := .tuple #[tk0.v 0, .int .i64 0]) (by simp [results, Tryz.results19, go_sem, r0, r1, r2, r3, tk0, Tk.v]) rfl ⟨rfl, by first | exact hB | exact below_alloc w _ | exact (((hB.setCell (by simp) _).setCell (by simp) _).setCell (by simp) _).setCell (by simp) _⟩
    rw [if_neg h30]
    have d30 : decide ((30 : Int) < (n : Int)) = false := by simp; omega
    clear h30
    rw [if_pos rfl]
    go_enter Tryz.func19, Tryz.ntmps19
    go_wp2_with (first
      | (go_at_call 39; with_reducible refine (HS.out _).mono ?_; rintro e w1 ⟨rfl, rfl⟩)
      | (go_at_call 40; with_reducible refine (HG.out _).mono ?_; rintro e w1 ⟨rfl, rfl⟩)
      | (go_at_call 41; with_reducible refine (HN.out _).mono ?_; rintro e w1 ⟨rfl, rfl⟩))
    have hB : Below w.heap.size w _ := below_alloc w (.cells #[.int .i64 0, .string ⟨#[]⟩, .int .i64 0, .int .i64 0] 32)
    have k0 := hb_new w (.cells #[.int .i64 0, .string ⟨#[]⟩, .int .i64 0, .int .i64 0] 32)
    have r0 := hb_at k0 0 rfl
    have r1 := hb_at k0 1 rfl
    have r2 := hb_at k0 2 rfl
    have r3 := hb_at k0 3 rfl
    exact bodyPost_ret (v := .tuple #[Tk.v ⟨2, T, 0⟩ 0, .int .i64 n]) (by simp [results, Tryz.results19, go_sem, r0, r1, r2, r3, tk0, Tk.v]) rfl ⟨rfl, by first | exact hB | exact below_alloc w _ | exact (((hB.setCell (by simp) _).setCell (by simp) _).setCell (by simp) _).setCell (by simp) _⟩
  · have e95 : ((s[0].toNat : Int) == 95) = true := by rw [h95]; rw [hs, hg] at hc; simpa using hc
    rw [hs] at HS
    rw [hg] at HG ⊢
    clear hc h95 hs hg
    by_cases h30 : 30 < n
    · rw [if_pos h30]
      have d30 : decide ((30 : Int) < (n : Int)) = true := by simp; omega
      clear h30
      go_enter Tryz.func19, Tryz.ntmps19
      go_wp2_with (first
        | (go_at_call 39; with_reducible refine (HS.out _).mono ?_; rintro e w1 ⟨rfl, rfl⟩)
        | (go_at_call 40; with_reducible refine (HG.out _).mono ?_; rintro e w1 ⟨rfl, rfl⟩)
        | (go_at_call 41; with_reducible refine (HN.out _).mono ?_; rintro e w1 ⟨rfl, rfl⟩))
      have hB : Below w.heap.size w _ := below_alloc w (.cells #[.int .i64 0, .string ⟨#[]⟩, .int .i64 0, .int .i64 0] 32)
      have k0 := hb_new w (.cells #[.int .i64 0, .string ⟨#[]⟩, .int .i64 0, .int .i64 0] 32)
      have r0 := hb_at k0 0 rfl
      have r1 := hb_at k0 1 rfl
      have r2 := hb_at k0 2 rfl
      have r3 := hb_at k0 3 rfl
      exact bodyPost_ret (v := .tuple #[tk0.v 0, .int .i64 0]) (by simp [results, Tryz.results19, go_sem, r0, r1, r2, r3, tk0, Tk.v]) rfl ⟨rfl, by first | exact hB | exact below_alloc w _ | exact (((hB.setCell (by simp) _).setCell (by simp) _).setCell (by simp) _).setCell (by simp) _⟩
    rw [if_neg h30]
    have d30 : decide ((30 : Int) < (n : Int)) = false := by simp; omega
    clear h30
    rw [if_neg (by simp : ¬ (false = true))]
    by_cases ht : T = ⟨#[95]⟩
    · rw [if_pos ht]
      have dt : (T.toList == [95]) = true := by rw [ht, ByteArray.toList_eq]; rfl
      clear ht
      go_enter Tryz.func19, Tryz.ntmps19
      go_wp2_with (first
        | (go_at_call 39; with_reducible refine (HS.out _).mono ?_; rintro e w1 ⟨rfl, rfl⟩)
        | (go_at_call 40; with_reducible refine (HG.out _).mono ?_; rintro e w1 ⟨rfl, rfl⟩)
        | (go_at_call 41; with_reducible refine (HN.out _).mono ?_; rintro e w1 ⟨rfl, rfl⟩))
      have hB : Below w.heap.size w _ := below_alloc w (.cells #[.int .i64 0, .string ⟨#[]⟩, .int .i64 0, .int .i64 0] 32)
      have k0 := hb_new w (.cells #[.int .i64 0, .string ⟨#[]⟩, .int .i64 0, .int .i64 0] 32)
      have r0 := hb_at k0 0 rfl
      have r1 := hb_at k0 1 rfl
      have r2 := hb_at k0 2 rfl
      have r3 := hb_at k0 3 rfl
      exact bodyPost_ret (v := .tuple #[Tk.v ⟨8, T, 0⟩ 0, .int .i64 n]) (by simp [results, Tryz.results19, go_sem, r0, r1, r2, r3, tk0, Tk.v]) rfl ⟨rfl, by first | exact hB | exact below_alloc w _ | exact (((hB.setCell (by simp) _).setCell (by simp) _).setCell (by simp) _).setCell (by simp) _⟩
    rw [if_neg ht]
    have dt : (T.toList == [95]) = false := by rw [beq_eq_false_iff_ne]; exact fun e => ht (toList_inj (b := ⟨#[95]⟩) (by rw [e, ByteArray.toList_eq]))
    clear ht
    cases hk : keyB T
    · rw [hk] at HIN
      rw [if_neg (by simp : ¬ (false = true))]
      clear hk
      go_enter Tryz.func19, Tryz.ntmps19
      go_wp2_with (first
        | (go_at_call 39; with_reducible refine (HS.out _).mono ?_; rintro e w1 ⟨rfl, rfl⟩)
        | (go_at_call 40; with_reducible refine (HG.out _).mono ?_; rintro e w1 ⟨rfl, rfl⟩)
        | (go_at_call 41; with_reducible refine (HN.out _).mono ?_; rintro e w1 ⟨rfl, rfl⟩)
        | (go_at_call 13; with_reducible refine (HK.out _).mono ?_; rintro e w2 ⟨ck, rfl, hsat, hb2⟩; rw [World.size_alloc] at hsat ⊢; have HSAT := Lib.hid hsat; have HB2 := Lib.hid hb2; have z2 := hb2.size; rw [World.size_alloc] at z2; have y2 : w.heap.size < w2.heap.size := (by omega); have k2 := hb_below (hb_new w (.cells #[.int .i64 0, .string ⟨#[]⟩, .int .i64 0, .int .i64 0] 32)) hb2 (by simp); have f0 := hb_free k2 0; have f1 := hb_free k2 1; have f2 := hb_free k2 2; have f3 := hb_free k2 3; have r0 := hb_at k2 0 rfl; have r1 := hb_at k2 1 rfl; have r2 := hb_at k2 2 rfl; have r3 := hb_at k2 3 rfl; clear k2; clear hsat hb2)
        | (go_at_call 12; with_reducible refine (HIN.out _ _ HSAT.out).mono ?_; rintro e w3 ⟨rfl, rfl⟩))
      have hB : Below w.heap.size w _ := (below_alloc w (.cells #[.int .i64 0, .string ⟨#[]⟩, .int .i64 0, .int .i64 0] 32)).trans (HB2.out.mono (by simp))
      have k0 := hb_below (hb_new w (.cells #[.int .i64 0, .string ⟨#[]⟩, .int .i64 0, .int .i64 0] 32)) HB2.out (by simp)
      have r0 := hb_at k0 0 rfl
      have r1 := hb_at k0 1 rfl
      have r2 := hb_at k0 2 rfl
      have r3 := hb_at k0 3 rfl
      exact bodyPost_ret (v := .tuple #[Tk.v ⟨1, T, 0⟩ 0, .int .i64 n]) (by simp [results, Tryz.results19, go_sem, r0, r1, r2, r3, tk0, Tk.v]) rfl ⟨rfl, by first | exact hB | exact below_alloc w _ | exact (((hB.setCell (by simp) _).setCell (by simp) _).setCell (by simp) _).setCell (by simp) _⟩
    · rw [hk] at HIN
      rw [if_pos rfl]
      clear hk
      go_enter Tryz.func19, Tryz.ntmps19
      go_wp2_with (first
        | (go_at_call 39; with_reducible refine (HS.out _).mono ?_; rintro e w1 ⟨rfl, rfl⟩)
        | (go_at_call 40; with_reducible refine (HG.out _).mono ?_; rintro e w1 ⟨rfl, rfl⟩)
        | (go_at_call 41; with_reducible refine (HN.out _).mono ?_; rintro e w1 ⟨rfl, rfl⟩)
        | (go_at_call 13; with_reducible refine (HK.out _).mono ?_; rintro e w2 ⟨ck, rfl, hsat, hb2⟩; rw [World.size_alloc] at hsat ⊢; have HSAT := Lib.hid hsat; have HB2 := Lib.hid hb2; have z2 := hb2.size; rw [World.size_alloc] at z2; have y2 : w.heap.size < w2.heap.size := (by omega); have k2 := hb_below (hb_new w (.cells #[.int .i64 0, .string ⟨#[]⟩, .int .i64 0, .int .i64 0] 32)) hb2 (by simp); have f0 := hb_free k2 0; have f1 := hb_free k2 1; have f2 := hb_free k2 2; have f3 := hb_free k2 3; have r0 := hb_at k2 0 rfl; have r1 := hb_at k2 1 rfl; have r2 := hb_at k2 2 rfl; have r3 := hb_at k2 3 rfl; clear k2; clear hsat hb2)
        | (go_at_call 12; with_reducible refine (HIN.out _ _ HSAT.out).mono ?_; rintro e w3 ⟨rfl, rfl⟩))
      have hB : Below w.heap.size w _ := (below_alloc w (.cells #[.int .i64 0, .string ⟨#[]⟩, .int .i64 0, .int .i64 0] 32)).trans (HB2.out.mono (by simp))
      have k0 := hb_below (hb_new w (.cells #[.int .i64 0, .string ⟨#[]⟩, .int .i64 0, .int .i64 0] 32)) HB2.out (by simp)
      have r0 := hb_at k0 0 rfl
      have r1 := hb_at k0 1 rfl
      have r2 := hb_at k0 2 rfl
      have r3 := hb_at k0 3 rfl
      exact bodyPost_ret (v := .tuple #[Tk.v ⟨7, T, 0⟩ 0, .int .i64 n]) (by simp [results, Tryz.results19, go_sem, r0, r1, r2, r3, tk0, Tk.v]) rfl ⟨rfl, by first | exact hB | exact below_alloc w _ | exact (((hB.setCell (by simp) _).setCell (by simp) _).setCell (by simp) _).setCell (by simp) _⟩
end Go.Proofs.YtpedmkdpbdhenaaGreatDoor
