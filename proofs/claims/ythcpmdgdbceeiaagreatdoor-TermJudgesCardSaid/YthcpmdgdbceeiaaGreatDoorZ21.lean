/- Texts in a row: Nh Ni Me. -/
import Derived.Test.YthcpmdgdbceeiaaGreatDoorZ20
import Derived.Test.YthcpmdgdbceeiaaGreatDoorZ19
import Derived.Test.YthcpmdgdbceeiaaGreatDoorZ17
/- The document's token at the beginning. -/
namespace Go.Proofs.YthcpmdgdbceeiaaGreatDoor
open Go.RowKit
set_option linter.unusedSimpArgs false
set_option linter.unusedVariables false
def varO (l : List UInt8) : Tk × Nat := if cnt vrB (l.drop 1) = 0 ∨ 29 < cnt vrB (l.drop 1) ∨ headS l[1]? = false then (tk0, 0) else (⟨3, ofL ((l.drop 1).take (cnt vrB (l.drop 1))), 0⟩, 1 + cnt vrB (l.drop 1))
theorem cutL (s : ByteArray) (a e : Nat) : s.extract a e = ofL ((s.data.toList.drop a).take (e - a)) := by
  apply toList_injX
  rw [ByteArray.toList_eq, ByteArray.data_extract, Array.toList_extract, List.extract_eq_take_drop, ByteArray.toList_eq]
set_option maxHeartbeats 8000000 in
set_option maxRecDepth 100000 in
theorem one_var (s : ByteArray) (hm : s.size ≤ 4194304) (h0 : 0 < s.size) (h39 : s[0].toNat = 39) (w : World) :
    Calls Tryz.prog 67 #[.string s, .int .i64 0] w fun e w' => e = .returned (.tuple #[(varO s.data.toList).1.v 0, .int .i64 (varO s.data.toList).2]) ∧ Below w.heap.size w w' := by
  have hci : (0 : Int) < (s.size : Int) := by omega
  have fS : smB s[0] = false := by unfold smB; simp; omega
  have fG : grB s[0] = false := by unfold grB; simp; omega
  have HS := Lib.hid (fun W => smD_any s[0] W)
  have HG := Lib.hid (fun W => grD_any s[0] W)
  rw [fS] at HS
  rw [fG] at HG
  have e95 : ((s[0].toNat : Int) == 95) = false := by rw [h39]; rfl
  have e39 : ((s[0].toNat : Int) == 39) = true := by rw [h39]; rfl
  have HN := Lib.hid (fun W => named1_any s hm h0 W)
  have hle := cnt_le vrB (s.data.toList.drop 1)
  rw [List.length_drop, len_list] at hle
  have hE : varO s.data.toList = (if cnt vrB (s.data.toList.drop 1) = 0 ∨ 29 < cnt vrB (s.data.toList.drop 1) ∨ headS s.data.toList[1]? = false then (tk0, 0) else (⟨3, s.extract 1 (1 + cnt vrB (s.data.toList.drop 1)), 0⟩, 1 + cnt vrB (s.data.toList.drop 1))) := by
    unfold varO
    rw [cutL, Nat.add_sub_cancel_left]
  rw [hE]
  clear hE fS fG h39
  generalize cnt vrB (s.data.toList.drop 1) = n at *
  by_cases hn0 : n = 0
  · rw [if_pos (.inl hn0)]
    subst hn0
    go_enter Tryz.func67, Tryz.ntmps67
    go_wp2_with (first
      | (go_at_call 87; with_reducible refine (HS.out _).mono ?_; rintro e w1 ⟨rfl, rfl⟩)
      | (go_at_call 88; with_reducible refine (HG.out _).mono ?_; rintro e w1 ⟨rfl, rfl⟩)
      | (go_at_call 89; with_reducible refine (HN.out _).mono ?_; rintro e w1 ⟨rfl, rfl⟩))
    all_goals
      have hB : Below w.heap.size w _ := below_alloc w (.cells #[.int .i64 0, .string ⟨#[]⟩, .int .i64 0, .int .i64 0] 67)
      have k0 := hb_new w (.cells #[.int .i64 0, .string ⟨#[]⟩, .int .i64 0, .int .i64 0] 67)
      have r0 := hb_at k0 0 rfl
      have r1 := hb_at k0 1 rfl
      have r2 := hb_at k0 2 rfl
      have r3 := hb_at k0 3 rfl
      exact bodyPost_ret (v := .tuple #[tk0.v 0, .int .i64 0]) (by simp [results, Tryz.results67, go_sem, r0, r1, r2, r3, tk0, Tk.v]) rfl ⟨rfl, by first | exact hB | exact below_alloc w _ | exact (((hB.setCell (by simp) _).setCell (by simp) _).setCell (by simp) _).setCell (by simp) _⟩
  have n0 : ((n : Int) == 0) = false := by rw [beq_eq_false_iff_ne]; omega
  by_cases h29 : 29 < n
  · rw [if_pos (.inr (.inl h29))]
    have d30 : decide ((30 : Int) < (n : Int) + 1) = true := by simp; omega
    go_enter Tryz.func67, Tryz.ntmps67
    go_wp2_with (first
      | (go_at_call 87; with_reducible refine (HS.out _).mono ?_; rintro e w1 ⟨rfl, rfl⟩)
      | (go_at_call 88; with_reducible refine (HG.out _).mono ?_; rintro e w1 ⟨rfl, rfl⟩)
      | (go_at_call 89; with_reducible refine (HN.out _).mono ?_; rintro e w1 ⟨rfl, rfl⟩))
    all_goals
      have hB : Below w.heap.size w _ := below_alloc w (.cells #[.int .i64 0, .string ⟨#[]⟩, .int .i64 0, .int .i64 0] 67)
      have k0 := hb_new w (.cells #[.int .i64 0, .string ⟨#[]⟩, .int .i64 0, .int .i64 0] 67)
      have r0 := hb_at k0 0 rfl
      have r1 := hb_at k0 1 rfl
      have r2 := hb_at k0 2 rfl
      have r3 := hb_at k0 3 rfl
      exact bodyPost_ret (v := .tuple #[tk0.v 0, .int .i64 0]) (by simp [results, Tryz.results67, go_sem, r0, r1, r2, r3, tk0, Tk.v]) rfl ⟨rfl, by first | exact hB | exact below_alloc w _ | exact (((hB.setCell (by simp) _).setCell (by simp) _).setCell (by simp) _).setCell (by simp) _⟩
  have d30 : decide ((30 : Int) < (n : Int) + 1) = false := by simp; omega
  have h1 : 1 < s.size := by omega
  have h1i : (1 : Int) < (s.size : Int) := by omega
  have hni : 1 + (n : Int) ≤ (s.size : Int) := by omega
  rw [at_list s 1 h1]
  rw [show headS (some s[1]) = smB s[1] from rfl]
  have HS1 := Lib.hid (fun W => smD_any s[1] W)
  rcases (Bool.eq_false_or_eq_true (smB s[1])).symm with hb | hb
  · rw [if_pos (.inr (.inr hb))]
    rw [hb] at HS1
    clear hb
    go_enter Tryz.func67, Tryz.ntmps67
    go_wp2_with (first
      | (go_at_call 87; with_reducible refine (HS.out _).mono ?_; rintro e w1 ⟨rfl, rfl⟩)
      | (go_at_call 87; with_reducible refine (HS1.out _).mono ?_; rintro e w1 ⟨rfl, rfl⟩)
      | (go_at_call 88; with_reducible refine (HG.out _).mono ?_; rintro e w1 ⟨rfl, rfl⟩)
      | (go_at_call 89; with_reducible refine (HN.out _).mono ?_; rintro e w1 ⟨rfl, rfl⟩))
    all_goals
      have hB : Below w.heap.size w _ := below_alloc w (.cells #[.int .i64 0, .string ⟨#[]⟩, .int .i64 0, .int .i64 0] 67)
      have k0 := hb_new w (.cells #[.int .i64 0, .string ⟨#[]⟩, .int .i64 0, .int .i64 0] 67)
      have r0 := hb_at k0 0 rfl
      have r1 := hb_at k0 1 rfl
      have r2 := hb_at k0 2 rfl
      have r3 := hb_at k0 3 rfl
      exact bodyPost_ret (v := .tuple #[tk0.v 0, .int .i64 0]) (by simp [results, Tryz.results67, go_sem, r0, r1, r2, r3, tk0, Tk.v]) rfl ⟨rfl, by first | exact hB | exact below_alloc w _ | exact (((hB.setCell (by simp) _).setCell (by simp) _).setCell (by simp) _).setCell (by simp) _⟩
  · rw [if_neg (by rw [hb]; simp; omega)]
    rw [hb] at HS1
    clear hb
    go_enter Tryz.func67, Tryz.ntmps67
    go_wp2_with (first
      | (go_at_call 87; with_reducible refine (HS.out _).mono ?_; rintro e w1 ⟨rfl, rfl⟩)
      | (go_at_call 87; with_reducible refine (HS1.out _).mono ?_; rintro e w1 ⟨rfl, rfl⟩)
      | (go_at_call 88; with_reducible refine (HG.out _).mono ?_; rintro e w1 ⟨rfl, rfl⟩)
      | (go_at_call 89; with_reducible refine (HN.out _).mono ?_; rintro e w1 ⟨rfl, rfl⟩))
    all_goals
      have hB : Below w.heap.size w _ := below_alloc w (.cells #[.int .i64 0, .string ⟨#[]⟩, .int .i64 0, .int .i64 0] 67)
      have k0 := hb_new w (.cells #[.int .i64 0, .string ⟨#[]⟩, .int .i64 0, .int .i64 0] 67)
      have r0 := hb_at k0 0 rfl
      have r1 := hb_at k0 1 rfl
      have r2 := hb_at k0 2 rfl
      have r3 := hb_at k0 3 rfl
      exact bodyPost_ret (v := .tuple #[Tk.v ⟨3, s.extract 1 (1 + n), 0⟩ 0, .int .i64 ((1 + n : Nat))]) (by simp [results, Tryz.results67, go_sem, r0, r1, r2, r3, tk0, Tk.v]; omega) rfl ⟨rfl, by first | exact hB | exact below_alloc w _ | exact (((hB.setCell (by simp) _).setCell (by simp) _).setCell (by simp) _).setCell (by simp) _⟩

set_option maxHeartbeats 8000000 in
set_option maxRecDepth 100000 in
theorem one_int0 (s : ByteArray) (hm : s.size ≤ 4194304) (h0 : 0 < s.size) (hd : dgB s[0] = true) (hv : verD s.data.toList = 0) (w : World) :
    Calls Tryz.prog 67 #[.string s, .int .i64 0] w fun e w' => e = .returned (.tuple #[(intDD s.data.toList 0).1.v 0, .int .i64 (intDD s.data.toList 0).2]) ∧ Below w.heap.size w w' := by
  have hci : (0 : Int) < (s.size : Int) := by omega
  have HS := Lib.hid (fun W => smD_any s[0] W)
  have HG := Lib.hid (fun W => grD_any s[0] W)
  have HD := Lib.hid (fun W => digD_any s[0] W)
  obtain ⟨fS, fG, n95, n39, n34, n45, _⟩ := dg_far hd
  rw [fS] at HS
  rw [fG] at HG
  rw [hd] at HD
  have HV := Lib.hid (fun W => version_doc s hm W)
  rw [hv] at HV
  have e95 : ((s[0].toNat : Int) == 95) = false := by rw [beq_eq_false_iff_ne]; omega
  have e39 : ((s[0].toNat : Int) == 39) = false := by rw [beq_eq_false_iff_ne]; omega
  have e34 : ((s[0].toNat : Int) == 34) = false := by rw [beq_eq_false_iff_ne]; omega
  have e45 : ((s[0].toNat : Int) == 45) = false := by rw [beq_eq_false_iff_ne]; omega
  have HDS := Lib.hid (fun W => digits0_any s hm W)
  have hdrop : s.data.toList.drop 0 = s.data.toList := List.drop_zero
  have hle := cnt_le dgB s.data.toList
  rw [len_list] at hle
  have hE : intDD s.data.toList 0 = (if cnt dgB s.data.toList = 0 ∨ 18 < cnt dgB s.data.toList ∨ (1 < cnt dgB s.data.toList ∧ zhB s.data.toList = true) then (tk0, 0) else (⟨4, ⟨#[]⟩, (Sv.val (s.extract 0 (cnt dgB s.data.toList)).data.toList : Nat)⟩, cnt dgB s.data.toList)) := by
    unfold intDD
    rw [hdrop, ext0, ofL_list]
    by_cases hc : cnt dgB s.data.toList = 0 ∨ 18 < cnt dgB s.data.toList ∨ (1 < cnt dgB s.data.toList ∧ zhB s.data.toList = true)
    · rw [if_pos hc, if_pos]
      rcases hc with h | h | h
      · exact .inl h
      · exact .inr (.inl h)
      · exact .inr (.inr (.inl h))
    · rw [if_neg hc, if_neg]
      · simp
      · rintro (h | h | h | ⟨h, _⟩)
        · exact hc (.inl h)
        · exact hc (.inr (.inl h))
        · exact hc (.inr (.inr h))
        · omega
  rw [hE]
  have hall : ∀ c ∈ (s.extract 0 (cnt dgB s.data.toList)).data.toList, dgB c = true := by
    rw [ext0, ofL_list, take_cnt]
    exact takeW_all dgB _
  have hz := zh_at h0
  clear hE hd hv fS fG n95 n39 n34 n45 hdrop
  generalize cnt dgB s.data.toList = n at *
  by_cases hn0 : n = 0
  · rw [if_pos (.inl hn0)]
    subst hn0
    go_enter Tryz.func67, Tryz.ntmps67
    go_wp2_with (first
      | (go_at_call 87; with_reducible refine (HS.out _).mono ?_; rintro e w1 ⟨rfl, rfl⟩)
      | (go_at_call 88; with_reducible refine (HG.out _).mono ?_; rintro e w1 ⟨rfl, rfl⟩)
      | (go_at_call 92; with_reducible refine (HD.out _).mono ?_; rintro e w1 ⟨rfl, rfl⟩)
      | (go_at_call 93; with_reducible refine (HV.out _).mono ?_; rintro e w4 ⟨rfl, hb4⟩; have HB4 := Lib.hid hb4; have z4 := hb4.size; rw [World.size_alloc] at z4; have y4 : w.heap.size < w4.heap.size := (by omega); have k4 := hb_below (hb_new w (.cells #[.int .i64 0, .string ⟨#[]⟩, .int .i64 0, .int .i64 0] 67)) hb4 (by simp); have f0 := hb_free k4 0; have f1 := hb_free k4 1; have f2 := hb_free k4 2; have f3 := hb_free k4 3; have r0 := hb_at k4 0 rfl; have r1 := hb_at k4 1 rfl; have r2 := hb_at k4 2 rfl; have r3 := hb_at k4 3 rfl; clear k4; clear hb4)
      | (go_at_call 94; with_reducible refine (HDS.out _).mono ?_; rintro e w1 ⟨rfl, rfl⟩))
    all_goals
      have hB : Below w.heap.size w _ := (below_alloc w (.cells #[.int .i64 0, .string ⟨#[]⟩, .int .i64 0, .int .i64 0] 67)).trans (HB4.out.mono (by simp))
      have k0 := hb_below (hb_new w (.cells #[.int .i64 0, .string ⟨#[]⟩, .int .i64 0, .int .i64 0] 67)) HB4.out (by simp)
      have r0 := hb_at k0 0 rfl
      have r1 := hb_at k0 1 rfl
      have r2 := hb_at k0 2 rfl
      have r3 := hb_at k0 3 rfl
      exact bodyPost_ret (v := .tuple #[tk0.v 0, .int .i64 0]) (by simp [results, Tryz.results67, go_sem, r0, r1, r2, r3, tk0, Tk.v]) rfl ⟨rfl, by first | exact hB | exact below_alloc w _ | exact (((hB.setCell (by simp) _).setCell (by simp) _).setCell (by simp) _).setCell (by simp) _⟩
  have n0 : ((n : Int) == 0) = false := by rw [beq_eq_false_iff_ne]; omega
  by_cases h18 : 18 < n
  · rw [if_pos (.inr (.inl h18))]
    have d18 : decide ((18 : Int) < (n : Int)) = true := by simp; omega
    go_enter Tryz.func67, Tryz.ntmps67
    go_wp2_with (first
      | (go_at_call 87; with_reducible refine (HS.out _).mono ?_; rintro e w1 ⟨rfl, rfl⟩)
      | (go_at_call 88; with_reducible refine (HG.out _).mono ?_; rintro e w1 ⟨rfl, rfl⟩)
      | (go_at_call 92; with_reducible refine (HD.out _).mono ?_; rintro e w1 ⟨rfl, rfl⟩)
      | (go_at_call 93; with_reducible refine (HV.out _).mono ?_; rintro e w4 ⟨rfl, hb4⟩; have HB4 := Lib.hid hb4; have z4 := hb4.size; rw [World.size_alloc] at z4; have y4 : w.heap.size < w4.heap.size := (by omega); have k4 := hb_below (hb_new w (.cells #[.int .i64 0, .string ⟨#[]⟩, .int .i64 0, .int .i64 0] 67)) hb4 (by simp); have f0 := hb_free k4 0; have f1 := hb_free k4 1; have f2 := hb_free k4 2; have f3 := hb_free k4 3; have r0 := hb_at k4 0 rfl; have r1 := hb_at k4 1 rfl; have r2 := hb_at k4 2 rfl; have r3 := hb_at k4 3 rfl; clear k4; clear hb4)
      | (go_at_call 94; with_reducible refine (HDS.out _).mono ?_; rintro e w1 ⟨rfl, rfl⟩))
    all_goals
      have hB : Below w.heap.size w _ := (below_alloc w (.cells #[.int .i64 0, .string ⟨#[]⟩, .int .i64 0, .int .i64 0] 67)).trans (HB4.out.mono (by simp))
      have k0 := hb_below (hb_new w (.cells #[.int .i64 0, .string ⟨#[]⟩, .int .i64 0, .int .i64 0] 67)) HB4.out (by simp)
      have r0 := hb_at k0 0 rfl
      have r1 := hb_at k0 1 rfl
      have r2 := hb_at k0 2 rfl
      have r3 := hb_at k0 3 rfl
      exact bodyPost_ret (v := .tuple #[tk0.v 0, .int .i64 0]) (by simp [results, Tryz.results67, go_sem, r0, r1, r2, r3, tk0, Tk.v]) rfl ⟨rfl, by first | exact hB | exact below_alloc w _ | exact (((hB.setCell (by simp) _).setCell (by simp) _).setCell (by simp) _).setCell (by simp) _⟩
  have d18 : decide ((18 : Int) < (n : Int)) = false := by simp; omega
  have HNU := Lib.hid (fun W => numberD_any (s.extract 0 n) hall (by rw [ByteArray.size_extract]; omega) W)
  have hvl := Sv.val_lt (s.extract 0 n).data.toList (fun c hc => by rw [← dg_is]; exact hall c hc)
  have hsz : (s.extract 0 n).data.toList.length ≤ 18 := by rw [len_list, ByteArray.size_extract]; omega
  have h10 : 10 ^ (s.extract 0 n).data.toList.length ≤ 10 ^ 18 := Nat.pow_le_pow_right (by decide) hsz
  have h1018 : (10 : Nat) ^ 18 = 1000000000000000000 := by decide
  generalize Sv.val (s.extract 0 n).data.toList = V at *
  have hVb : V ≤ 1000000000000000000 := by omega
  clear hvl hsz h10 h1018 hall
  have hni : (n : Int) ≤ (s.size : Int) := by omega
  cases hb : ((s[0].toNat : Int) == 48)
  · rw [if_neg (by rw [hz, hb]; simp; omega)]
    clear hz
    go_enter Tryz.func67, Tryz.ntmps67
    go_wp2_with (first
      | (go_at_call 87; with_reducible refine (HS.out _).mono ?_; rintro e w1 ⟨rfl, rfl⟩)
      | (go_at_call 88; with_reducible refine (HG.out _).mono ?_; rintro e w1 ⟨rfl, rfl⟩)
      | (go_at_call 92; with_reducible refine (HD.out _).mono ?_; rintro e w1 ⟨rfl, rfl⟩)
      | (go_at_call 93; with_reducible refine (HV.out _).mono ?_; rintro e w4 ⟨rfl, hb4⟩; have HB4 := Lib.hid hb4; have z4 := hb4.size; rw [World.size_alloc] at z4; have y4 : w.heap.size < w4.heap.size := (by omega); have k4 := hb_below (hb_new w (.cells #[.int .i64 0, .string ⟨#[]⟩, .int .i64 0, .int .i64 0] 67)) hb4 (by simp); have f0 := hb_free k4 0; have f1 := hb_free k4 1; have f2 := hb_free k4 2; have f3 := hb_free k4 3; have r0 := hb_at k4 0 rfl; have r1 := hb_at k4 1 rfl; have r2 := hb_at k4 2 rfl; have r3 := hb_at k4 3 rfl; clear k4; clear hb4)
      | (go_at_call 94; with_reducible refine (HDS.out _).mono ?_; rintro e w1 ⟨rfl, rfl⟩)
      | (go_at_call 95; with_reducible refine (HNU.out _).mono ?_; rintro e w1 ⟨rfl, rfl⟩))
    all_goals
      have hB : Below w.heap.size w _ := (below_alloc w (.cells #[.int .i64 0, .string ⟨#[]⟩, .int .i64 0, .int .i64 0] 67)).trans (HB4.out.mono (by simp))
      have k0 := hb_below (hb_new w (.cells #[.int .i64 0, .string ⟨#[]⟩, .int .i64 0, .int .i64 0] 67)) HB4.out (by simp)
      have r0 := hb_at k0 0 rfl
      have r1 := hb_at k0 1 rfl
      have r2 := hb_at k0 2 rfl
      have r3 := hb_at k0 3 rfl
      exact bodyPost_ret (v := .tuple #[Tk.v ⟨4, ⟨#[]⟩, (V : Nat)⟩ 0, .int .i64 n]) (by simp [results, Tryz.results67, go_sem, r0, r1, r2, r3, tk0, Tk.v]) rfl ⟨rfl, by first | exact hB | exact below_alloc w _ | exact (((hB.setCell (by simp) _).setCell (by simp) _).setCell (by simp) _).setCell (by simp) _⟩
  · by_cases h1 : 1 < n
    · rw [if_pos (.inr (.inr ⟨h1, by rw [hz, hb]⟩))]
      have d1 : decide ((1 : Int) < (n : Int)) = true := by simp; omega
      clear hz
      go_enter Tryz.func67, Tryz.ntmps67
      go_wp2_with (first
        | (go_at_call 87; with_reducible refine (HS.out _).mono ?_; rintro e w1 ⟨rfl, rfl⟩)
        | (go_at_call 88; with_reducible refine (HG.out _).mono ?_; rintro e w1 ⟨rfl, rfl⟩)
        | (go_at_call 92; with_reducible refine (HD.out _).mono ?_; rintro e w1 ⟨rfl, rfl⟩)
        | (go_at_call 93; with_reducible refine (HV.out _).mono ?_; rintro e w4 ⟨rfl, hb4⟩; have HB4 := Lib.hid hb4; have z4 := hb4.size; rw [World.size_alloc] at z4; have y4 : w.heap.size < w4.heap.size := (by omega); have k4 := hb_below (hb_new w (.cells #[.int .i64 0, .string ⟨#[]⟩, .int .i64 0, .int .i64 0] 67)) hb4 (by simp); have f0 := hb_free k4 0; have f1 := hb_free k4 1; have f2 := hb_free k4 2; have f3 := hb_free k4 3; have r0 := hb_at k4 0 rfl; have r1 := hb_at k4 1 rfl; have r2 := hb_at k4 2 rfl; have r3 := hb_at k4 3 rfl; clear k4; clear hb4)
        | (go_at_call 94; with_reducible refine (HDS.out _).mono ?_; rintro e w1 ⟨rfl, rfl⟩))
      all_goals
        have hB : Below w.heap.size w _ := (below_alloc w (.cells #[.int .i64 0, .string ⟨#[]⟩, .int .i64 0, .int .i64 0] 67)).trans (HB4.out.mono (by simp))
        have k0 := hb_below (hb_new w (.cells #[.int .i64 0, .string ⟨#[]⟩, .int .i64 0, .int .i64 0] 67)) HB4.out (by simp)
        have r0 := hb_at k0 0 rfl
        have r1 := hb_at k0 1 rfl
        have r2 := hb_at k0 2 rfl
        have r3 := hb_at k0 3 rfl
        exact bodyPost_ret (v := .tuple #[tk0.v 0, .int .i64 0]) (by simp [results, Tryz.results67, go_sem, r0, r1, r2, r3, tk0, Tk.v]) rfl ⟨rfl, by first | exact hB | exact below_alloc w _ | exact (((hB.setCell (by simp) _).setCell (by simp) _).setCell (by simp) _).setCell (by simp) _⟩
    · rw [if_neg (by rw [hz, hb]; simp; omega)]
      have d1 : decide ((1 : Int) < (n : Int)) = false := by simp; omega
      clear hz
      go_enter Tryz.func67, Tryz.ntmps67
      go_wp2_with (first
        | (go_at_call 87; with_reducible refine (HS.out _).mono ?_; rintro e w1 ⟨rfl, rfl⟩)
        | (go_at_call 88; with_reducible refine (HG.out _).mono ?_; rintro e w1 ⟨rfl, rfl⟩)
        | (go_at_call 92; with_reducible refine (HD.out _).mono ?_; rintro e w1 ⟨rfl, rfl⟩)
        | (go_at_call 93; with_reducible refine (HV.out _).mono ?_; rintro e w4 ⟨rfl, hb4⟩; have HB4 := Lib.hid hb4; have z4 := hb4.size; rw [World.size_alloc] at z4; have y4 : w.heap.size < w4.heap.size := (by omega); have k4 := hb_below (hb_new w (.cells #[.int .i64 0, .string ⟨#[]⟩, .int .i64 0, .int .i64 0] 67)) hb4 (by simp); have f0 := hb_free k4 0; have f1 := hb_free k4 1; have f2 := hb_free k4 2; have f3 := hb_free k4 3; have r0 := hb_at k4 0 rfl; have r1 := hb_at k4 1 rfl; have r2 := hb_at k4 2 rfl; have r3 := hb_at k4 3 rfl; clear k4; clear hb4)
        | (go_at_call 94; with_reducible refine (HDS.out _).mono ?_; rintro e w1 ⟨rfl, rfl⟩)
        | (go_at_call 95; with_reducible refine (HNU.out _).mono ?_; rintro e w1 ⟨rfl, rfl⟩))
      all_goals
        have hB : Below w.heap.size w _ := (below_alloc w (.cells #[.int .i64 0, .string ⟨#[]⟩, .int .i64 0, .int .i64 0] 67)).trans (HB4.out.mono (by simp))
        have k0 := hb_below (hb_new w (.cells #[.int .i64 0, .string ⟨#[]⟩, .int .i64 0, .int .i64 0] 67)) HB4.out (by simp)
        have r0 := hb_at k0 0 rfl
        have r1 := hb_at k0 1 rfl
        have r2 := hb_at k0 2 rfl
        have r3 := hb_at k0 3 rfl
        exact bodyPost_ret (v := .tuple #[Tk.v ⟨4, ⟨#[]⟩, (V : Nat)⟩ 0, .int .i64 n]) (by simp [results, Tryz.results67, go_sem, r0, r1, r2, r3, tk0, Tk.v]) rfl ⟨rfl, by first | exact hB | exact below_alloc w _ | exact (((hB.setCell (by simp) _).setCell (by simp) _).setCell (by simp) _).setCell (by simp) _⟩
set_option maxHeartbeats 8000000 in
set_option maxRecDepth 100000 in
theorem one_int1 (s : ByteArray) (hm : s.size ≤ 4194304) (h0 : 0 < s.size) (h45 : s[0].toNat = 45) (hp : s.data.toList.take 2 ≠ [45, 62]) (w : World) :
    Calls Tryz.prog 67 #[.string s, .int .i64 0] w fun e w' => e = .returned (.tuple #[(intDD s.data.toList 1).1.v 0, .int .i64 (intDD s.data.toList 1).2]) ∧ Below w.heap.size w w' := by
  have hci : (0 : Int) < (s.size : Int) := by omega
  have HS := Lib.hid (fun W => smD_any s[0] W)
  have HG := Lib.hid (fun W => grD_any s[0] W)
  have HD := Lib.hid (fun W => digD_any s[0] W)
  have fS : smB s[0] = false := by unfold smB; simp; omega
  have fG : grB s[0] = false := by unfold grB; simp; omega
  have fD : dgB s[0] = false := by unfold dgB; simp; omega
  rw [fS] at HS
  rw [fG] at HG
  rw [fD] at HD
  have e95 : ((s[0].toNat : Int) == 95) = false := by rw [h45]; rfl
  have e39 : ((s[0].toNat : Int) == 39) = false := by rw [h45]; rfl
  have e34 : ((s[0].toNat : Int) == 34) = false := by rw [h45]; rfl
  have e45 : ((s[0].toNat : Int) == 45) = true := by rw [h45]; rfl
  have HP : (1 < s.size ∧ ∃ h : 1 < s.size, ((s[1].toNat : Int) == 62) = false) ∨ ¬ 1 < s.size := by
    by_cases h1 : 1 < s.size
    · refine .inl ⟨h1, h1, ?_⟩
      rw [beq_eq_false_iff_ne]
      intro e
      exact hp ((take2_at h1 h45).2 (by omega))
    · exact .inr h1
  have HDS := Lib.hid (fun W => digitsB_any s hm h0 W)
  have hle := cnt_le dgB (s.data.toList.drop 1)
  rw [List.length_drop, len_list] at hle
  have hE : intDD s.data.toList 1 = (if cnt dgB (s.data.toList.drop 1) = 0 ∨ 18 < cnt dgB (s.data.toList.drop 1) ∨ (zhB (s.data.toList.drop 1) = true) then (tk0, 0) else (⟨4, ⟨#[]⟩, -(Sv.val (s.extract 1 (1 + cnt dgB (s.data.toList.drop 1))).data.toList : Nat)⟩, 1 + cnt dgB (s.data.toList.drop 1))) := by
    unfold intDD
    rw [cutL, Nat.add_sub_cancel_left, ofL_list]
    by_cases hc : cnt dgB (s.data.toList.drop 1) = 0 ∨ 18 < cnt dgB (s.data.toList.drop 1) ∨ (zhB (s.data.toList.drop 1) = true)
    · rw [if_pos hc, if_pos]
      rcases hc with h | h | h
      · exact .inl h
      · exact .inr (.inl h)
      · exact .inr (.inr (.inr ⟨rfl, h⟩))
    · rw [if_neg hc, if_neg]
      · simp
      · rintro (h | h | ⟨_, h⟩ | ⟨_, h⟩)
        · exact hc (.inl h)
        · exact hc (.inr (.inl h))
        · exact hc (.inr (.inr h))
        · exact hc (.inr (.inr h))
  rw [hE]
  have hall : ∀ c ∈ (s.extract 1 (1 + cnt dgB (s.data.toList.drop 1))).data.toList, dgB c = true := by
    rw [cutL, Nat.add_sub_cancel_left, ofL_list, take_cnt]
    exact takeW_all dgB _
  have hz : ∀ h : 1 < s.size, zhB (s.data.toList.drop 1) = ((s[1].toNat : Int) == 48) := by
    intro h
    have h2 := zh_at (s := s.extract 1 s.size) (by rw [sfx_size]; omega)
    rw [sfx_list] at h2
    rw [h2]
    have h3 := at_list (s.extract 1 s.size) 0 (by rw [sfx_size]; omega)
    rw [sfx_list, List.getElem?_drop, at_list s 1 h] at h3
    rw [← Option.some.inj h3]
  clear hE fS fG fD h45 hp
  generalize cnt dgB (s.data.toList.drop 1) = n at *
  rcases HP with ⟨h1, h1', hne⟩ | h1
  · have h1i : (1 : Int) < (s.size : Int) := by omega
    by_cases hn0 : n = 0
    · rw [if_pos (.inl hn0)]
      subst hn0
      go_enter Tryz.func67, Tryz.ntmps67
      go_wp2_with (first
        | (go_at_call 87; with_reducible refine (HS.out _).mono ?_; rintro e w1 ⟨rfl, rfl⟩)
        | (go_at_call 88; with_reducible refine (HG.out _).mono ?_; rintro e w1 ⟨rfl, rfl⟩)
        | (go_at_call 92; with_reducible refine (HD.out _).mono ?_; rintro e w1 ⟨rfl, rfl⟩)
        | (go_at_call 94; with_reducible refine (HDS.out _).mono ?_; rintro e w1 ⟨rfl, rfl⟩))
      all_goals
        have hB : Below w.heap.size w _ := below_alloc w (.cells #[.int .i64 0, .string ⟨#[]⟩, .int .i64 0, .int .i64 0] 67)
        have k0 := hb_new w (.cells #[.int .i64 0, .string ⟨#[]⟩, .int .i64 0, .int .i64 0] 67)
        have r0 := hb_at k0 0 rfl
        have r1 := hb_at k0 1 rfl
        have r2 := hb_at k0 2 rfl
        have r3 := hb_at k0 3 rfl
        exact bodyPost_ret (v := .tuple #[tk0.v 0, .int .i64 0]) (by simp [results, Tryz.results67, go_sem, r0, r1, r2, r3, tk0, Tk.v]) rfl ⟨rfl, by first | exact hB | exact below_alloc w _ | exact (((hB.setCell (by simp) _).setCell (by simp) _).setCell (by simp) _).setCell (by simp) _⟩
    have n0 : ((n : Int) == 0) = false := by rw [beq_eq_false_iff_ne]; omega
    by_cases h18 : 18 < n
    · rw [if_pos (.inr (.inl h18))]
      have d18 : decide ((18 : Int) < (n : Int)) = true := by simp; omega
      go_enter Tryz.func67, Tryz.ntmps67
      go_wp2_with (first
        | (go_at_call 87; with_reducible refine (HS.out _).mono ?_; rintro e w1 ⟨rfl, rfl⟩)
        | (go_at_call 88; with_reducible refine (HG.out _).mono ?_; rintro e w1 ⟨rfl, rfl⟩)
        | (go_at_call 92; with_reducible refine (HD.out _).mono ?_; rintro e w1 ⟨rfl, rfl⟩)
        | (go_at_call 94; with_reducible refine (HDS.out _).mono ?_; rintro e w1 ⟨rfl, rfl⟩))
      all_goals
        have hB : Below w.heap.size w _ := below_alloc w (.cells #[.int .i64 0, .string ⟨#[]⟩, .int .i64 0, .int .i64 0] 67)
        have k0 := hb_new w (.cells #[.int .i64 0, .string ⟨#[]⟩, .int .i64 0, .int .i64 0] 67)
        have r0 := hb_at k0 0 rfl
        have r1 := hb_at k0 1 rfl
        have r2 := hb_at k0 2 rfl
        have r3 := hb_at k0 3 rfl
        exact bodyPost_ret (v := .tuple #[tk0.v 0, .int .i64 0]) (by simp [results, Tryz.results67, go_sem, r0, r1, r2, r3, tk0, Tk.v]) rfl ⟨rfl, by first | exact hB | exact below_alloc w _ | exact (((hB.setCell (by simp) _).setCell (by simp) _).setCell (by simp) _).setCell (by simp) _⟩
    have d18 : decide ((18 : Int) < (n : Int)) = false := by simp; omega
    have HNU := Lib.hid (fun W => numberD_any (s.extract 1 (1 + n)) hall (by rw [ByteArray.size_extract]; omega) W)
    have hvl := Sv.val_lt (s.extract 1 (1 + n)).data.toList (fun c hc => by rw [← dg_is]; exact hall c hc)
    have hsz : (s.extract 1 (1 + n)).data.toList.length ≤ 18 := by rw [len_list, ByteArray.size_extract]; omega
    have h10 : 10 ^ (s.extract 1 (1 + n)).data.toList.length ≤ 10 ^ 18 := Nat.pow_le_pow_right (by decide) hsz
    have h1018 : (10 : Nat) ^ 18 = 1000000000000000000 := by decide
    generalize Sv.val (s.extract 1 (1 + n)).data.toList = V at *
    have hVb : V ≤ 1000000000000000000 := by omega
    clear hvl hsz h10 h1018 hall
    have h2 : 1 < s.size := by omega
    have h2i : (1 : Int) < (s.size : Int) := by omega
    have hni : 1 + (n : Int) ≤ (s.size : Int) := by omega
    cases hb : ((s[1].toNat : Int) == 48)
    · rw [if_neg (by rw [hz h2, hb]; simp; omega)]
      clear hz
      go_enter Tryz.func67, Tryz.ntmps67
      go_wp2_with (first
        | (go_at_call 87; with_reducible refine (HS.out _).mono ?_; rintro e w1 ⟨rfl, rfl⟩)
        | (go_at_call 88; with_reducible refine (HG.out _).mono ?_; rintro e w1 ⟨rfl, rfl⟩)
        | (go_at_call 92; with_reducible refine (HD.out _).mono ?_; rintro e w1 ⟨rfl, rfl⟩)
        | (go_at_call 94; with_reducible refine (HDS.out _).mono ?_; rintro e w1 ⟨rfl, rfl⟩)
        | (go_at_call 95; with_reducible refine (HNU.out _).mono ?_; rintro e w1 ⟨rfl, rfl⟩))
      all_goals
        have hB : Below w.heap.size w _ := below_alloc w (.cells #[.int .i64 0, .string ⟨#[]⟩, .int .i64 0, .int .i64 0] 67)
        have k0 := hb_new w (.cells #[.int .i64 0, .string ⟨#[]⟩, .int .i64 0, .int .i64 0] 67)
        have r0 := hb_at k0 0 rfl
        have r1 := hb_at k0 1 rfl
        have r2 := hb_at k0 2 rfl
        have r3 := hb_at k0 3 rfl
        exact bodyPost_ret (v := .tuple #[Tk.v ⟨4, ⟨#[]⟩, -(V : Nat)⟩ 0, .int .i64 ((1 + n : Nat))]) (by simp [results, Tryz.results67, go_sem, r0, r1, r2, r3, tk0, Tk.v]) rfl ⟨rfl, by first | exact hB | exact below_alloc w _ | exact (((hB.setCell (by simp) _).setCell (by simp) _).setCell (by simp) _).setCell (by simp) _⟩
    · rw [if_pos (.inr (.inr (by rw [hz h2, hb])))]
      clear hz
      by_cases h1n : 1 < n
      · have d1 : decide ((1 : Int) < (n : Int)) = true := by simp; omega
        go_enter Tryz.func67, Tryz.ntmps67
        go_wp2_with (first
          | (go_at_call 87; with_reducible refine (HS.out _).mono ?_; rintro e w1 ⟨rfl, rfl⟩)
          | (go_at_call 88; with_reducible refine (HG.out _).mono ?_; rintro e w1 ⟨rfl, rfl⟩)
          | (go_at_call 92; with_reducible refine (HD.out _).mono ?_; rintro e w1 ⟨rfl, rfl⟩)
          | (go_at_call 94; with_reducible refine (HDS.out _).mono ?_; rintro e w1 ⟨rfl, rfl⟩))
        all_goals
          have hB : Below w.heap.size w _ := below_alloc w (.cells #[.int .i64 0, .string ⟨#[]⟩, .int .i64 0, .int .i64 0] 67)
          have k0 := hb_new w (.cells #[.int .i64 0, .string ⟨#[]⟩, .int .i64 0, .int .i64 0] 67)
          have r0 := hb_at k0 0 rfl
          have r1 := hb_at k0 1 rfl
          have r2 := hb_at k0 2 rfl
          have r3 := hb_at k0 3 rfl
          exact bodyPost_ret (v := .tuple #[tk0.v 0, .int .i64 0]) (by simp [results, Tryz.results67, go_sem, r0, r1, r2, r3, tk0, Tk.v]) rfl ⟨rfl, by first | exact hB | exact below_alloc w _ | exact (((hB.setCell (by simp) _).setCell (by simp) _).setCell (by simp) _).setCell (by simp) _⟩
      · have d1 : decide ((1 : Int) < (n : Int)) = false := by simp; omega
        go_enter Tryz.func67, Tryz.ntmps67
        go_wp2_with (first
          | (go_at_call 87; with_reducible refine (HS.out _).mono ?_; rintro e w1 ⟨rfl, rfl⟩)
          | (go_at_call 88; with_reducible refine (HG.out _).mono ?_; rintro e w1 ⟨rfl, rfl⟩)
          | (go_at_call 92; with_reducible refine (HD.out _).mono ?_; rintro e w1 ⟨rfl, rfl⟩)
          | (go_at_call 94; with_reducible refine (HDS.out _).mono ?_; rintro e w1 ⟨rfl, rfl⟩))
        all_goals
          have hB : Below w.heap.size w _ := below_alloc w (.cells #[.int .i64 0, .string ⟨#[]⟩, .int .i64 0, .int .i64 0] 67)
          have k0 := hb_new w (.cells #[.int .i64 0, .string ⟨#[]⟩, .int .i64 0, .int .i64 0] 67)
          have r0 := hb_at k0 0 rfl
          have r1 := hb_at k0 1 rfl
          have r2 := hb_at k0 2 rfl
          have r3 := hb_at k0 3 rfl
          exact bodyPost_ret (v := .tuple #[tk0.v 0, .int .i64 0]) (by simp [results, Tryz.results67, go_sem, r0, r1, r2, r3, tk0, Tk.v]) rfl ⟨rfl, by first | exact hB | exact below_alloc w _ | exact (((hB.setCell (by simp) _).setCell (by simp) _).setCell (by simp) _).setCell (by simp) _⟩
  · have hn0 : n = 0 := by omega
    have h1i : ¬ (1 : Int) < (s.size : Int) := by omega
    have hss : s.size = 1 := by omega
    rw [if_pos (.inl hn0)]
    subst hn0
    clear hall hz
    go_enter Tryz.func67, Tryz.ntmps67
    go_wp2_with (first
      | (go_at_call 87; with_reducible refine (HS.out _).mono ?_; rintro e w1 ⟨rfl, rfl⟩)
      | (go_at_call 88; with_reducible refine (HG.out _).mono ?_; rintro e w1 ⟨rfl, rfl⟩)
      | (go_at_call 92; with_reducible refine (HD.out _).mono ?_; rintro e w1 ⟨rfl, rfl⟩)
      | (go_at_call 94; with_reducible refine (HDS.out _).mono ?_; rintro e w1 ⟨rfl, rfl⟩))
    all_goals
      have hB : Below w.heap.size w _ := below_alloc w (.cells #[.int .i64 0, .string ⟨#[]⟩, .int .i64 0, .int .i64 0] 67)
      have k0 := hb_new w (.cells #[.int .i64 0, .string ⟨#[]⟩, .int .i64 0, .int .i64 0] 67)
      have r0 := hb_at k0 0 rfl
      have r1 := hb_at k0 1 rfl
      have r2 := hb_at k0 2 rfl
      have r3 := hb_at k0 3 rfl
      exact bodyPost_ret (v := .tuple #[tk0.v 0, .int .i64 0]) (by simp [results, Tryz.results67, go_sem, r0, r1, r2, r3, tk0, Tk.v]) rfl ⟨rfl, by first | exact hB | exact below_alloc w _ | exact (((hB.setCell (by simp) _).setCell (by simp) _).setCell (by simp) _).setCell (by simp) _⟩
end Go.Proofs.YthcpmdgdbceeiaaGreatDoor
/- The document's token at the beginning: all kinds. -/
namespace Go.Proofs.YthcpmdgdbceeiaaGreatDoor
open Go.RowKit
set_option linter.unusedSimpArgs false
set_option linter.unusedVariables false
set_option maxHeartbeats 8000000 in
set_option maxRecDepth 100000 in
theorem one_text (s : ByteArray) (hm : s.size ≤ 4194304) (h0 : 0 < s.size) (h34 : s[0].toNat = 34) (w : World) :
    Calls Tryz.prog 67 #[.string s, .int .i64 0] w fun e w' => e = .returned (.tuple #[(txR (tdM s.data.toList 1 [])).1.v 0, .int .i64 (txR (tdM s.data.toList 1 [])).2]) ∧ Below w.heap.size w w' := by
  have hci : (0 : Int) < (s.size : Int) := by omega
  have HS := Lib.hid (fun W => smD_any s[0] W)
  have HG := Lib.hid (fun W => grD_any s[0] W)
  have HD := Lib.hid (fun W => digD_any s[0] W)
  have fS : smB s[0] = false := by unfold smB; simp; omega
  have fG : grB s[0] = false := by unfold grB; simp; omega
  rw [fS] at HS
  rw [fG] at HG
  have e95 : ((s[0].toNat : Int) == 95) = false := by rw [h34]; rfl
  have e39 : ((s[0].toNat : Int) == 39) = false := by rw [h34]; rfl
  have e34 : ((s[0].toNat : Int) == 34) = true := by rw [h34]; rfl
  have HT0 := Lib.hid (fun W => text_doc s hm W)
  clear h34 fS fG
  generalize txR (tdM s.data.toList 1 []) = X at *
  obtain ⟨⟨tk, ts, tn⟩, m⟩ := X
  have HT : RowKit.Hid (∀ W, Calls Tryz.prog 91 #[.string s, .int .i64 0] W fun e w' => e = .returned (.tuple #[.agg #[.int .i64 tk, .string ts, .int .i64 tn, .int .i64 0], .int .i64 (m : Nat)]) ∧ Below W.heap.size W w') := HT0
  clear HT0
  go_enter Tryz.func67, Tryz.ntmps67
  go_wp2_with (first
    | (go_at_call 87; with_reducible refine (HS.out _).mono ?_; rintro e w1 ⟨rfl, rfl⟩)
    | (go_at_call 88; with_reducible refine (HG.out _).mono ?_; rintro e w1 ⟨rfl, rfl⟩)
    | (go_at_call 91; with_reducible refine (HT.out _).mono ?_; rintro e w2 ⟨rfl, hb⟩; obtain ⟨hc, hf⟩ := bcellX hb; have z2 := hb.size; rw [World.size_alloc] at z2; have y2 : w.heap.size < w2.heap.size := (by omega)))
  have hB : Below w.heap.size w w2 := (below_alloc w _).trans (hb.mono (by simp))
  have k0 := (hb_below (hb_new w (.cells #[.int .i64 0, .string ⟨#[]⟩, .int .i64 0, .int .i64 0] 67)) hb (by simp))
  have r0 := hb_at k0 0 rfl
  have r1 := hb_at k0 1 rfl
  have r2 := hb_at k0 2 rfl
  have r3 := hb_at k0 3 rfl
  exact bodyPost_ret (v := .tuple #[.agg #[.int .i64 tk, .string ts, .int .i64 tn, .int .i64 0], .int .i64 (m : Nat)]) (by simp [results, Tryz.results67, go_sem, r0, r1, r2, r3]) rfl ⟨rfl, (((hB.setCell (by simp) _).setCell (by simp) _).setCell (by simp) _).setCell (by simp) _⟩
set_option maxHeartbeats 8000000 in
set_option maxRecDepth 100000 in
theorem one_arrow (s : ByteArray) (hm : s.size ≤ 4194304) (h0 : 0 < s.size) (h45 : s[0].toNat = 45) (hp : s.data.toList.take 2 = [45, 62]) (w : World) :
    Calls Tryz.prog 67 #[.string s, .int .i64 0] w fun e w' => e = .returned (.tuple #[Tk.v ⟨8, ofL [45, 62], 0⟩ 0, .int .i64 2]) ∧ Below w.heap.size w w' := by
  have hci : (0 : Int) < (s.size : Int) := by omega
  have HS := Lib.hid (fun W => smD_any s[0] W)
  have HG := Lib.hid (fun W => grD_any s[0] W)
  have HD := Lib.hid (fun W => digD_any s[0] W)
  have fS : smB s[0] = false := by unfold smB; simp; omega
  have fG : grB s[0] = false := by unfold grB; simp; omega
  rw [fS] at HS
  rw [fG] at HG
  have e95 : ((s[0].toNat : Int) == 95) = false := by rw [h45]; rfl
  have e39 : ((s[0].toNat : Int) == 39) = false := by rw [h45]; rfl
  have e34 : ((s[0].toNat : Int) == 34) = false := by rw [h45]; rfl
  have e45 : ((s[0].toNat : Int) == 45) = true := by rw [h45]; rfl
  have h1 : 1 < s.size := by
    rcases Nat.lt_or_ge 1 s.size with h | h
    · exact h
    · exact absurd hp (ps_small s h)
  have h1i : (1 : Int) < (s.size : Int) := by omega
  have e62 : ((s[1].toNat : Int) == 62) = true := by rw [(take2_at h1 h45).1 hp]; rfl
  clear h45 hp fS fG
  go_enter Tryz.func67, Tryz.ntmps67
  go_wp2_with (first
    | (go_at_call 87; with_reducible refine (HS.out _).mono ?_; rintro e w1 ⟨rfl, rfl⟩)
    | (go_at_call 88; with_reducible refine (HG.out _).mono ?_; rintro e w1 ⟨rfl, rfl⟩))
  all_goals
    have hB : Below w.heap.size w _ := below_alloc w (.cells #[.int .i64 0, .string ⟨#[]⟩, .int .i64 0, .int .i64 0] 67)
    have k0 := hb_new w (.cells #[.int .i64 0, .string ⟨#[]⟩, .int .i64 0, .int .i64 0] 67)
    have r0 := hb_at k0 0 rfl
    have r1 := hb_at k0 1 rfl
    have r2 := hb_at k0 2 rfl
    have r3 := hb_at k0 3 rfl
    exact bodyPost_ret (v := .tuple #[Tk.v ⟨8, ofL [45, 62], 0⟩ 0, .int .i64 2]) (by simp [results, Tryz.results67, go_sem, r0, r1, r2, r3, tk0, Tk.v]) rfl ⟨rfl, by first | exact hB | exact below_alloc w _ | exact (((hB.setCell (by simp) _).setCell (by simp) _).setCell (by simp) _).setCell (by simp) _⟩
set_option maxHeartbeats 8000000 in
set_option maxRecDepth 100000 in
theorem one_version (s : ByteArray) (hm : s.size ≤ 4194304) (h0 : 0 < s.size) (hd : dgB s[0] = true) (hv : 0 < verD s.data.toList) (w : World) :
    Calls Tryz.prog 67 #[.string s, .int .i64 0] w fun e w' => e = .returned (.tuple #[Tk.v ⟨6, ofL (s.data.toList.take (verD s.data.toList)), 0⟩ 0, .int .i64 (verD s.data.toList : Nat)]) ∧ Below w.heap.size w w' := by
  have hci : (0 : Int) < (s.size : Int) := by omega
  have HS := Lib.hid (fun W => smD_any s[0] W)
  have HG := Lib.hid (fun W => grD_any s[0] W)
  have HD := Lib.hid (fun W => digD_any s[0] W)
  obtain ⟨fS, fG, n95, n39, n34, n45, _⟩ := dg_far hd
  rw [fS] at HS
  rw [fG] at HG
  rw [hd] at HD
  have e95 : ((s[0].toNat : Int) == 95) = false := by rw [beq_eq_false_iff_ne]; omega
  have e39 : ((s[0].toNat : Int) == 39) = false := by rw [beq_eq_false_iff_ne]; omega
  have e34 : ((s[0].toNat : Int) == 34) = false := by rw [beq_eq_false_iff_ne]; omega
  have e45 : ((s[0].toNat : Int) == 45) = false := by rw [beq_eq_false_iff_ne]; omega
  have HV := Lib.hid (fun W => version_doc s hm W)
  have hle := verD_le s.data.toList
  rw [len_list] at hle
  rw [← ext0]
  clear hd fS fG n95 n39 n34 n45
  generalize verD s.data.toList = n at *
  have hni : (n : Int) ≤ (s.size : Int) := by omega
  have hv' : 0 < n := hv
  go_enter Tryz.func67, Tryz.ntmps67
  go_wp2_with (first
    | (go_at_call 87; with_reducible refine (HS.out _).mono ?_; rintro e w1 ⟨rfl, rfl⟩)
    | (go_at_call 88; with_reducible refine (HG.out _).mono ?_; rintro e w1 ⟨rfl, rfl⟩)
    | (go_at_call 92; with_reducible refine (HD.out _).mono ?_; rintro e w1 ⟨rfl, rfl⟩))
  go_at_call 93
  with_reducible refine (HV.out _).mono ?_
  rintro e w4 ⟨rfl, hb4⟩
  have z4 := hb4.size
  rw [World.size_alloc] at z4
  go_wp2_with fail
  go_at_call 93
  with_reducible refine (HV.out _).mono ?_
  rintro e w5 ⟨rfl, hb5⟩
  have z5 := hb5.size
  have y5 : w.heap.size < w5.heap.size := (by omega)
  have hB : Below w.heap.size w w5 := ((below_alloc w _).trans (hb4.mono (by simp))).trans (hb5.mono (by omega))
  have k0 := hb_below (hb_below (hb_new w (.cells #[.int .i64 0, .string ⟨#[]⟩, .int .i64 0, .int .i64 0] 67)) hb4 (by simp)) hb5 (by omega)
  have f0 := hb_free k0 0
  have f1 := hb_free k0 1
  have f2 := hb_free k0 2
  have f3 := hb_free k0 3
  have r0 := hb_at k0 0 rfl
  have r1 := hb_at k0 1 rfl
  have r2 := hb_at k0 2 rfl
  have r3 := hb_at k0 3 rfl
  go_wp2
  exact bodyPost_ret (v := .tuple #[Tk.v ⟨6, s.extract 0 n, 0⟩ 0, .int .i64 (n : Nat)]) (by simp [results, Tryz.results67, go_sem, r0, r1, r2, r3, Tk.v]) rfl ⟨rfl, (((hB.setCell (by simp) _).setCell (by simp) _).setCell (by simp) _).setCell (by simp) _⟩
/-- The signs of one byte, but for _. -/
def sgnL : List ByteArray := [⟨#[61]⟩, ⟨#[124]⟩, ⟨#[40]⟩, ⟨#[41]⟩, ⟨#[44]⟩, ⟨#[59]⟩, ⟨#[58]⟩, ⟨#[46]⟩, ⟨#[64]⟩]
theorem sgn_in (c : UInt8) : inB (ofL [c]) sgnL = isS9 c.toNat := by
  have key : ∀ x : UInt8, (ofL [c] = ⟨#[x]⟩) ↔ c.toNat = x.toNat := by
    intro x
    constructor
    · intro h
      have h1 : [c] = [x] := congrArg (fun b : ByteArray => b.data.toList) h
      have h2 : c = x := by simpa using h1
      rw [h2]
    · intro h
      rw [UInt8.toNat_inj.1 h]
  have hm : (ofL [c] ∈ sgnL) ↔ isS9 c.toNat = true := by
    unfold sgnL isS9
    simp only [List.mem_cons, List.not_mem_nil, or_false, key, Bool.or_eq_true, decide_eq_true_eq]
    have e : ∀ n : Nat, n < 256 → (UInt8.ofNat n).toNat = n := fun n hn => by rw [UInt8.toNat_ofNat']; exact Nat.mod_eq_of_lt hn
    constructor
    · rintro (h | h | h | h | h | h | h | h | h) <;> rw [h] <;> decide
    · rintro ((((((((h | h) | h) | h) | h) | h) | h) | h) | h) <;> rw [h] <;> decide
  cases hs : isS9 c.toNat
  · exact inB_no fun h => by rw [hm.1 h] at hs; cases hs
  · exact inB_yes (hm.2 hs)
set_option maxHeartbeats 8000000 in
set_option maxRecDepth 100000 in
theorem one_sign (s : ByteArray) (hm : s.size ≤ 4194304) (h0 : 0 < s.size) (hS : smB s[0] = false) (hG : grB s[0] = false) (hD : dgB s[0] = false) (n95 : s[0].toNat ≠ 95) (n39 : s[0].toNat ≠ 39) (n34 : s[0].toNat ≠ 34) (n45 : s[0].toNat ≠ 45) (h9 : isS9 s[0].toNat = true) (w : World) :
    Calls Tryz.prog 67 #[.string s, .int .i64 0] w fun e w' => e = .returned (.tuple #[Tk.v ⟨8, ofL (s.data.toList.take 1), 0⟩ 0, .int .i64 1]) ∧ Below w.heap.size w w' := by
  have hci : (0 : Int) < (s.size : Int) := by omega
  have HS := Lib.hid (fun W => smD_any s[0] W)
  have HG := Lib.hid (fun W => grD_any s[0] W)
  have HD := Lib.hid (fun W => digD_any s[0] W)
  rw [hS] at HS
  rw [hG] at HG
  rw [hD] at HD
  have e95 : ((s[0].toNat : Int) == 95) = false := by rw [beq_eq_false_iff_ne]; omega
  have e39 : ((s[0].toNat : Int) == 39) = false := by rw [beq_eq_false_iff_ne]; omega
  have e34 : ((s[0].toNat : Int) == 34) = false := by rw [beq_eq_false_iff_ne]; omega
  have e45 : ((s[0].toNat : Int) == 45) = false := by rw [beq_eq_false_iff_ne]; omega
  have hE : s.extract 0 1 = ofL [s[0]] := keep_one h0
  have hk1 : (1 : Int) ≤ (s.size : Int) := by omega
  have HIN := Lib.hid (fun v W (h : SAt W v sgnL) => inD_any (s.extract 0 1) v sgnL W h (by decide))
  rw [hE, sgn_in] at HIN
  rw [← hE] at HIN
  rw [h9] at HIN
  rw [← ext0]
  clear hS hG hD n95 n39 n34 n45 h9 hE
  have HSL : RowKit.Hid (SAt ((w.alloc (.cells #[.int .i64 0, .string ⟨#[]⟩, .int .i64 0, .int .i64 0] 67)).alloc (.cells #[.string ⟨#[61]⟩, .string ⟨#[124]⟩, .string ⟨#[40]⟩, .string ⟨#[41]⟩, .string ⟨#[44]⟩, .string ⟨#[59]⟩, .string ⟨#[58]⟩, .string ⟨#[46]⟩, .string ⟨#[64]⟩] 9)) (.slice (some ⟨w.heap.size + 1, 0, none⟩) 9 9) sgnL) := Lib.hid (by have h := sat_lit (w.alloc (.cells #[.int .i64 0, .string ⟨#[]⟩, .int .i64 0, .int .i64 0] 67)) sgnL #[.string ⟨#[61]⟩, .string ⟨#[124]⟩, .string ⟨#[40]⟩, .string ⟨#[41]⟩, .string ⟨#[44]⟩, .string ⟨#[59]⟩, .string ⟨#[58]⟩, .string ⟨#[46]⟩, .string ⟨#[64]⟩] rfl 9; rw [World.size_alloc] at h; exact h)
  go_enter Tryz.func67, Tryz.ntmps67
  go_wp2_with (first
    | (go_at_call 87; with_reducible refine (HS.out _).mono ?_; rintro e w1 ⟨rfl, rfl⟩)
    | (go_at_call 88; with_reducible refine (HG.out _).mono ?_; rintro e w1 ⟨rfl, rfl⟩)
    | (go_at_call 92; with_reducible refine (HD.out _).mono ?_; rintro e w1 ⟨rfl, rfl⟩)
    | (go_at_call 51; with_reducible refine (HIN.out _ _ HSL.out).mono ?_; rintro e w3 ⟨rfl, rfl⟩))
  all_goals
    have hB : Below w.heap.size w _ := below2X w (.cells #[.int .i64 0, .string ⟨#[]⟩, .int .i64 0, .int .i64 0] 67) (.cells #[.string ⟨#[61]⟩, .string ⟨#[124]⟩, .string ⟨#[40]⟩, .string ⟨#[41]⟩, .string ⟨#[44]⟩, .string ⟨#[59]⟩, .string ⟨#[58]⟩, .string ⟨#[46]⟩, .string ⟨#[64]⟩] 9)
    have k0 := hb_alloc (hb_new w (.cells #[.int .i64 0, .string ⟨#[]⟩, .int .i64 0, .int .i64 0] 67)) (.cells #[.string ⟨#[61]⟩, .string ⟨#[124]⟩, .string ⟨#[40]⟩, .string ⟨#[41]⟩, .string ⟨#[44]⟩, .string ⟨#[59]⟩, .string ⟨#[58]⟩, .string ⟨#[46]⟩, .string ⟨#[64]⟩] 9)
    have r0 := hb_at k0 0 rfl
    have r1 := hb_at k0 1 rfl
    have r2 := hb_at k0 2 rfl
    have r3 := hb_at k0 3 rfl
    exact bodyPost_ret (v := .tuple #[Tk.v ⟨8, s.extract 0 1, 0⟩ 0, .int .i64 1]) (by simp [results, Tryz.results67, go_sem, r0, r1, r2, r3, tk0, Tk.v]) rfl ⟨rfl, by first | exact hB | exact below2X w _ _ | exact (((hB.setCell (by simp) _).setCell (by simp) _).setCell (by simp) _).setCell (by simp) _⟩
set_option maxHeartbeats 8000000 in
set_option maxRecDepth 100000 in
theorem one_none (s : ByteArray) (hm : s.size ≤ 4194304) (h0 : 0 < s.size) (hS : smB s[0] = false) (hG : grB s[0] = false) (hD : dgB s[0] = false) (n95 : s[0].toNat ≠ 95) (n39 : s[0].toNat ≠ 39) (n34 : s[0].toNat ≠ 34) (n45 : s[0].toNat ≠ 45) (h9 : isS9 s[0].toNat = false) (w : World) :
    Calls Tryz.prog 67 #[.string s, .int .i64 0] w fun e w' => e = .returned (.tuple #[tk0.v 0, .int .i64 0]) ∧ Below w.heap.size w w' := by
  have hci : (0 : Int) < (s.size : Int) := by omega
  have HS := Lib.hid (fun W => smD_any s[0] W)
  have HG := Lib.hid (fun W => grD_any s[0] W)
  have HD := Lib.hid (fun W => digD_any s[0] W)
  rw [hS] at HS
  rw [hG] at HG
  rw [hD] at HD
  have e95 : ((s[0].toNat : Int) == 95) = false := by rw [beq_eq_false_iff_ne]; omega
  have e39 : ((s[0].toNat : Int) == 39) = false := by rw [beq_eq_false_iff_ne]; omega
  have e34 : ((s[0].toNat : Int) == 34) = false := by rw [beq_eq_false_iff_ne]; omega
  have e45 : ((s[0].toNat : Int) == 45) = false := by rw [beq_eq_false_iff_ne]; omega
  have hE : s.extract 0 1 = ofL [s[0]] := keep_one h0
  have hk1 : (1 : Int) ≤ (s.size : Int) := by omega
  have HIN := Lib.hid (fun v W (h : SAt W v sgnL) => inD_any (s.extract 0 1) v sgnL W h (by decide))
  rw [hE, sgn_in] at HIN
  rw [← hE] at HIN
  rw [h9] at HIN
  clear hS hG hD n95 n39 n34 n45 h9 hE
  have HSL : RowKit.Hid (SAt ((w.alloc (.cells #[.int .i64 0, .string ⟨#[]⟩, .int .i64 0, .int .i64 0] 67)).alloc (.cells #[.string ⟨#[61]⟩, .string ⟨#[124]⟩, .string ⟨#[40]⟩, .string ⟨#[41]⟩, .string ⟨#[44]⟩, .string ⟨#[59]⟩, .string ⟨#[58]⟩, .string ⟨#[46]⟩, .string ⟨#[64]⟩] 9)) (.slice (some ⟨w.heap.size + 1, 0, none⟩) 9 9) sgnL) := Lib.hid (by have h := sat_lit (w.alloc (.cells #[.int .i64 0, .string ⟨#[]⟩, .int .i64 0, .int .i64 0] 67)) sgnL #[.string ⟨#[61]⟩, .string ⟨#[124]⟩, .string ⟨#[40]⟩, .string ⟨#[41]⟩, .string ⟨#[44]⟩, .string ⟨#[59]⟩, .string ⟨#[58]⟩, .string ⟨#[46]⟩, .string ⟨#[64]⟩] rfl 9; rw [World.size_alloc] at h; exact h)
  go_enter Tryz.func67, Tryz.ntmps67
  go_wp2_with (first
    | (go_at_call 87; with_reducible refine (HS.out _).mono ?_; rintro e w1 ⟨rfl, rfl⟩)
    | (go_at_call 88; with_reducible refine (HG.out _).mono ?_; rintro e w1 ⟨rfl, rfl⟩)
    | (go_at_call 92; with_reducible refine (HD.out _).mono ?_; rintro e w1 ⟨rfl, rfl⟩)
    | (go_at_call 51; with_reducible refine (HIN.out _ _ HSL.out).mono ?_; rintro e w3 ⟨rfl, rfl⟩))
  all_goals
    have hB : Below w.heap.size w _ := below2X w (.cells #[.int .i64 0, .string ⟨#[]⟩, .int .i64 0, .int .i64 0] 67) (.cells #[.string ⟨#[61]⟩, .string ⟨#[124]⟩, .string ⟨#[40]⟩, .string ⟨#[41]⟩, .string ⟨#[44]⟩, .string ⟨#[59]⟩, .string ⟨#[58]⟩, .string ⟨#[46]⟩, .string ⟨#[64]⟩] 9)
    have k0 := hb_alloc (hb_new w (.cells #[.int .i64 0, .string ⟨#[]⟩, .int .i64 0, .int .i64 0] 67)) (.cells #[.string ⟨#[61]⟩, .string ⟨#[124]⟩, .string ⟨#[40]⟩, .string ⟨#[41]⟩, .string ⟨#[44]⟩, .string ⟨#[59]⟩, .string ⟨#[58]⟩, .string ⟨#[46]⟩, .string ⟨#[64]⟩] 9)
    have r0 := hb_at k0 0 rfl
    have r1 := hb_at k0 1 rfl
    have r2 := hb_at k0 2 rfl
    have r3 := hb_at k0 3 rfl
    exact bodyPost_ret (v := .tuple #[tk0.v 0, .int .i64 0]) (by simp [results, Tryz.results67, go_sem, r0, r1, r2, r3, tk0, Tk.v]) rfl ⟨rfl, by first | exact hB | exact below2X w _ _ | exact (((hB.setCell (by simp) _).setCell (by simp) _).setCell (by simp) _).setCell (by simp) _⟩
theorem one_doc (s : ByteArray) (hm : s.size ≤ 4194304) (h0 : 0 < s.size) (w : World) :
    Calls Tryz.prog 67 #[.string s, .int .i64 0] w fun e w' => e = .returned (.tuple #[(oneT s.data.toList).1.v 0, .int .i64 (oneT s.data.toList).2]) ∧ Below w.heap.size w w' := by
  rw [oneT_at (at_list s 0 h0)]
  by_cases hc : (smB s[0] || grB s[0] || decide (s[0].toNat = 95)) = true
  · rw [if_pos hc]; exact one_name s hm h0 hc w
  rw [if_neg hc]
  simp only [Bool.not_eq_true, Bool.or_eq_false_iff, decide_eq_false_iff_not] at hc
  obtain ⟨⟨hS, hG⟩, n95⟩ := hc
  by_cases h39 : s[0].toNat = 39
  · rw [if_pos h39]; exact one_var s hm h0 h39 w
  rw [if_neg h39]
  by_cases h34 : s[0].toNat = 34
  · rw [if_pos h34]; exact one_text s hm h0 h34 w
  rw [if_neg h34]
  by_cases hp : s.data.toList.take 2 = [45, 62]
  · rw [if_pos hp]
    have h45 : s[0].toNat = 45 := by
      have h1 := take_head (n := 2) (at_list s 0 h0) (by omega)
      rw [hp] at h1
      have h2 : (45 : UInt8) = s[0] := by simpa using h1
      rw [← h2]; rfl
    exact one_arrow s hm h0 h45 hp w
  rw [if_neg hp]
  by_cases hd : dgB s[0] = true
  · by_cases hv : 0 < verD s.data.toList
    · rw [if_pos ⟨hd, hv⟩]; exact one_version s hm h0 hd hv w
    · obtain ⟨_, _, _, _, _, n45, _⟩ := dg_far hd
      rw [if_neg (fun h => hv h.2), if_pos (by rw [hd]; rfl), if_neg n45]
      exact one_int0 s hm h0 hd (by omega) w
  rw [if_neg (fun h => hd h.1)]
  rw [Bool.not_eq_true] at hd
  by_cases h45 : s[0].toNat = 45
  · rw [if_pos (by rw [h45]; simp), if_pos h45]
    exact one_int1 s hm h0 h45 hp w
  rw [if_neg (by rw [hd]; simp [h45])]
  by_cases h9 : isS9 s[0].toNat = true
  · rw [if_pos h9]; exact one_sign s hm h0 hS hG hd n95 h39 h34 h45 h9 w
  · rw [if_neg h9]
    rw [Bool.not_eq_true] at h9
    exact one_none s hm h0 hS hG hd n95 h39 h34 h45 h9 w
end Go.Proofs.YthcpmdgdbceeiaaGreatDoor
/- Mathematics: which tokens may be, by the document's words. -/
namespace Go.Proofs.YthcpmdgdbceeiaaGreatDoor
open Go.RowKit
set_option linter.unusedSimpArgs false
set_option linter.unusedVariables false
theorem txF_1000 (L : List UInt8) : ∀ (f i : Nat) (said r : List UInt8) (n : Nat), txF L f i said = some (r, n) → r.length ≤ 1000 := by
  intro f
  induction f with
  | zero => intro i said r n h; cases h
  | succ f ih =>
    intro i said r n h
    unfold txF at h
    split at h
    · cases h
    · rename_i h1000
      cases hc : L[i]? with
      | none => rw [hc] at h; cases h
      | some c =>
        rw [hc] at h
        simp only [] at h
        split at h
        · cases h; omega
        · split at h
          · cases h
          · split at h
            · cases hd : L[i + 1]? with
              | none => rw [hd] at h; cases h
              | some d =>
                rw [hd] at h
                simp only [] at h
                split at h
                · exact ih _ _ _ _ h
                · cases h
            · exact ih _ _ _ _ h
theorem int_range {l : List UInt8} (h : intM l ≠ 0) : -999999999999999999 ≤ intV l ∧ intV l ≤ 999999999999999999 := by
  cases hp : Lib.hasPrefix l [45]
  · obtain ⟨e1, e2, e3⟩ := intM_plain hp h
    obtain ⟨m, hm, hs⟩ := intD_dec e2 e3
    have hV : intV l = (m : Int) := by unfold intV; rw [hp, hm]; rfl
    have h2 := Lib.decFrom_lt18 (Lib.decNat_some hm).2 (by rw [intD_len]; exact e3)
    omega
  · obtain ⟨e1, e0, e2, e3⟩ := intM_neg hp h
    obtain ⟨m, hm, hs⟩ := intD_dec e2 e3
    have hV : intV l = -(m : Int) := by unfold intV; rw [hp, hm]; rfl
    have h2 := Lib.decFrom_lt18 (Lib.decNat_some hm).2 (by rw [intD_len]; exact e3)
    omega
def KindT (t : Tk) : Prop := 1 ≤ t.k ∧ t.k ≤ 8 ∧ t.s.size ≤ 1000 ∧ (-999999999999999999 ≤ t.n ∧ t.n ≤ 999999999999999999)
theorem kind_mk (k : Int) (s : ByteArray) (n : Int) (h1 : 1 ≤ k) (h2 : k ≤ 8) (h3 : s.size ≤ 1000) (h4 : -999999999999999999 ≤ n) (h5 : n ≤ 999999999999999999) : KindT ⟨k, s, n⟩ := ⟨h1, h2, h3, h4, h5⟩
theorem ofL_small {l : List UInt8} {n m : Nat} (h : n ≤ m) : (ofL (l.take n)).size ≤ m := by
  rw [ofL_size, List.length_take]; omega
theorem nameT_kind {kind : Int} {l : List UInt8} {t : Tk} {n : Nat} (hk : kind = 1 ∨ kind = 2) (h : nameT kind (ofL l) = (t, n)) (h0 : 0 < n) : KindT t := by
  rw [nameT_ofL] at h
  split at h
  · cases h; omega
  · rename_i h30
    cases h
    have hs : (ofL (l.take (cnt nmB l))).size ≤ 1000 := ofL_small (by omega)
    cases keyB (ofL (l.take (cnt nmB l)))
    · exact kind_mk _ _ _ (by simp; omega) (by simp; omega) hs (by omega) (by omega)
    · exact kind_mk _ _ _ (by simp) (by simp) hs (by omega) (by omega)
theorem first_kinds {l : List UInt8} {t : Tk} {n : Nat} (h : firstT (ofL l) = (t, n)) (h0 : 0 < n) : KindT t := by
  cases hc : l[0]? with
  | none => rw [firstT_none hc] at h; cases h; omega
  | some c =>
    rw [firstT_at hc] at h
    split at h
    · exact nameT_kind (.inl rfl) h h0
    · split at h
      · exact nameT_kind (.inr rfl) h h0
      · split at h
        · rw [varT_ofL] at h
          split at h
          · cases h; omega
          · rename_i hcond
            cases h
            exact kind_mk _ _ _ (by omega) (by omega) (ofL_small (by omega)) (by omega) (by omega)
        · split at h
          · obtain ⟨r, hr, rfl⟩ := textT_some h h0
            have := txF_1000 _ _ _ _ _ _ hr
            exact kind_mk _ _ _ (by omega) (by omega) (by rw [ofL_size]; exact this) (by omega) (by omega)
          · split at h
            · rw [numT_ofL] at h
              split at h
              · cases h
                have h20 := verF_le (ofL l) (min (ofL l).size 20)
                have hv : verM (ofL l) ≤ 20 := Nat.le_trans h20 (Nat.min_le_right _ _)
                exact kind_mk _ _ _ (by omega) (by omega) (ofL_small (by omega)) (by omega) (by omega)
              · split at h
                · cases h; omega
                · rename_i hi
                  cases h
                  have := int_range hi
                  exact kind_mk _ _ _ (by omega) (by omega) (Nat.zero_le _) this.1 this.2
            · rw [signT_ofL] at h
              split at h
              · cases h; exact kind_mk _ _ _ (by omega) (by omega) (ofL_small (by omega)) (by omega) (by omega)
              · split at h
                · cases h; exact kind_mk _ _ _ (by omega) (by omega) (ofL_small (by omega)) (by omega) (by omega)
                · cases h; omega
/-- A token that may be, by the document's words. -/
theorem right_iff (t : Tk) : RightT t ↔ (1 ≤ t.k ∧ t.k ≤ 8 ∧ t.s.size ≤ 1000 ∧ (t.k = 4 → -999999999999999999 ≤ t.n ∧ t.n ≤ 999999999999999999) ∧ 0 < (tellT t).length ∧ oneT (tellT t) = (t, (tellT t).length)) := by
  constructor
  · rintro ⟨h0, h1⟩
    obtain ⟨k1, k2, k3, k4⟩ := first_kinds h1 h0
    exact ⟨k1, k2, k3, fun _ => k4, h0, (one_first h0).2 h1⟩
  · rintro ⟨_, _, _, _, h0, h1⟩
    exact ⟨h0, (one_first h0).1 h1⟩
end Go.Proofs.YthcpmdgdbceeiaaGreatDoor
