/- The document's token at the beginning. -/
import Derived.Test.YtpedmkdpbdhenaaGreatDoorNg
namespace Go.Proofs.YtpedmkdpbdhenaaGreatDoor
open Go.RowKit
set_option linter.unusedSimpArgs false
set_option linter.unusedVariables false
def varO (l : List UInt8) : Tk × Nat := if cnt vrB (l.drop 1) = 0 ∨ 29 < cnt vrB (l.drop 1) ∨ headS l[1]? = false then (tk0, 0) else (⟨3, ofL ((l.drop 1).take (cnt vrB (l.drop 1))), 0⟩, 1 + cnt vrB (l.drop 1))
theorem cutL (s : ByteArray) (a e : Nat) : s.extract a e = ofL ((s.data.toList.drop a).take (e - a)) := by
  apply toList_inj
  rw [ByteArray.toList_eq, ByteArray.data_extract, Array.toList_extract, List.extract_eq_take_drop, ByteArray.toList_eq]
set_option maxHeartbeats 8000000 in
set_option maxRecDepth 100000 in
theorem one_var (s : ByteArray) (hm : s.size ≤ 4194304) (h0 : 0 < s.size) (h39 : s[0].toNat = 39) (w : World) :
    Calls Tryz.prog 19 #[.string s, .int .i64 0] w fun e w' => e = .returned (.tuple #[(varO s.data.toList).1.v 0, .int .i64 (varO s.data.toList).2]) ∧ Below w.heap.size w w' := by
  have hci : (0 : Int) < (s.size : Int) := by omega
  have fS : smB s[0] = false := by unfold smB; simp; omega
  have fG : grB s[0] = false := by unfold grB; simp; omega
  have HS := Lib.hid (fun W => smD_any s[0] W)
  have HG := Lib.hid (fun W => grD_any s[0] W)
  rw [fS] at HS
  rw [fG] at HG
  have e95 : ((s[0].toNat : Int) == 95) = false := by rw [h39]; rfl
  have e39 : ((s[0].toNat : Int) == 39) = true := by rw [h39]; rfl
  have HN := Lib.hid (fun W => named1_any s hm h0 W)
  have hle := cnt_le vrB (s.data.toList.drop 1)
  rw [List.length_drop, len_list] at hle
  have hE : varO s.data.toList = (if cnt vrB (s.data.toList.drop 1) = 0 ∨ 29 < cnt vrB (s.data.toList.drop 1) ∨ headS s.data.toList[1]? = false then (tk0, 0) else (⟨3, s.extract 1 (1 + cnt vrB (s.data.toList.drop 1)), 0⟩, 1 + cnt vrB (s.data.toList.drop 1))) := by
    unfold varO
    rw [cutL, Nat.add_sub_cancel_left]
  rw [hE]
  clear hE fS fG h39
  generalize cnt vrB (s.data.toList.drop 1) = n at *
  by_cases hn0 : n = 0
  · rw [if_pos (.inl hn0)]
    subst hn0
    go_enter Tryz.func19, Tryz.ntmps19
    go_wp2_with (first
      | (go_at_call 39; with_reducible refine (HS.out _).mono ?_; rintro e w1 ⟨rfl, rfl⟩)
      | (go_at_call 40; with_reducible refine (HG.out _).mono ?_; rintro e w1 ⟨rfl, rfl⟩)
      | (go_at_call 41; with_reducible refine (HN.out _).mono ?_; rintro e w1 ⟨rfl, rfl⟩))
    all_goals
      have hB : Below w.heap.size w _ := below_alloc w (.cells #[.int .i64 0, .string ⟨#[]⟩, .int .i64 0, .int .i64 0] 32)
      have k0 := hb_new w (.cells #[.int .i64 0, .string ⟨#[]⟩, .int .i64 0, .int .i64 0] 32)
      have r0 := hb_at k0 0 rfl
      have r1 := hb_at k0 1 rfl
      have r2 := hb_at k0 2 rfl
      have r3 := hb_at k0 3 rfl
      exact bodyPost_ret (v := .tuple #[tk0.v 0, .int .i64 0]) (by simp [results, Tryz.results19, go_sem, r0, r1, r2, r3, tk0, Tk.v]) rfl ⟨rfl, by first | exact hB | exact below_alloc w _ | exact (((hB.setCell (by simp) _).setCell (by simp) _).setCell (by simp) _).setCell (by simp) _⟩
  have n0 : ((n : Int) == 0) = false := by rw [beq_eq_false_iff_ne]; omega
  by_cases h29 : 29 < n
  · rw [if_pos (.inr (.inl h29))]
    have d30 : decide ((30 : Int) < (n : Int) + 1) = true := by simp; omega
    go_enter Tryz.func19, Tryz.ntmps19
    go_wp2_with (first
      | (go_at_call 39; with_reducible refine (HS.out _).mono ?_; rintro e w1 ⟨rfl, rfl⟩)
      | (go_at_call 40; with_reducible refine (HG.out _).mono ?_; rintro e w1 ⟨rfl, rfl⟩)
      | (go_at_call 41; with_reducible refine (HN.out _).mono ?_; rintro e w1 ⟨rfl, rfl⟩))
    all_goals
      have hB : Below w.heap.size w _ := below_alloc w (.cells #[.int .i64 0, .string ⟨#[]⟩, .int .i64 0, .int .i64 0] 32)
      have k0 := hb_new w (.cells #[.int .i64 0, .string ⟨#[]⟩, .int .i64 0, .int .i64 0] 32)
      have r0 := hb_at k0 0 rfl
      have r1 := hb_at k0 1 rfl
      have r2 := hb_at k0 2 rfl
      have r3 := hb_at k0 3 rfl
      exact bodyPost_ret (v := .tuple #[tk0.v 0, .int .i64 0]) (by simp [results, Tryz.results19, go_sem, r0, r1, r2, r3, tk0, Tk.v]) rfl ⟨rfl, by first | exact hB | exact below_alloc w _ | exact (((hB.setCell (by simp) _).setCell (by simp) _).setCell (by simp) _).setCell (by simp) _⟩
  have d30 : decide ((30 : Int) < (n : Int) + 1) = false := by simp; omega
  have h1 : 1 < s.size := by omega
  have h1i : (1 : Int) < (s.size : Int) := by omega
  have hni : 1 + (n : Int) ≤ (s.size : Int) := by omega
  rw [at_list s 1 h1]
  rw [show headS (some s[1]) = smB s[1] from rfl]
  have HS1 := Lib.hid (fun W => smD_any s[1] W)
  rcases (Bool.eq_false_or_eq_true (smB s[1])).symm with hb | hb
  · rw [if_pos (.inr (.inr hb))]
    rw [hb] at HS1
    clear hb
    go_enter Tryz.func19, Tryz.ntmps19
    go_wp2_with (first
      | (go_at_call 39; with_reducible refine (HS.out _).mono ?_; rintro e w1 ⟨rfl, rfl⟩)
      | (go_at_call 39; with_reducible refine (HS1.out _).mono ?_; rintro e w1 ⟨rfl, rfl⟩)
      | (go_at_call 40; with_reducible refine (HG.out _).mono ?_; rintro e w1 ⟨rfl, rfl⟩)
      | (go_at_call 41; with_reducible refine (HN.out _).mono ?_; rintro e w1 ⟨rfl, rfl⟩))
    all_goals
      have hB : Below w.heap.size w _ := below_alloc w (.cells #[.int .i64 0, .string ⟨#[]⟩, .int .i64 0, .int .i64 0] 32)
      have k0 := hb_new w (.cells #[.int .i64 0, .string ⟨#[]⟩, .int .i64 0, .int .i64 0] 32)
      have r0 := hb_at k0 0 rfl
      have r1 := hb_at k0 1 rfl
      have r2 := hb_at k0 2 rfl
      have r3 := hb_at k0 3 rfl
      exact bodyPost_ret (v := .tuple #[tk0.v 0, .int .i64 0]) (by simp [results, Tryz.results19, go_sem, r0, r1, r2, r3, tk0, Tk.v]) rfl ⟨rfl, by first | exact hB | exact below_alloc w _ | exact (((hB.setCell (by simp) _).setCell (by simp) _).setCell (by simp) _).setCell (by simp) _⟩
  · rw [if_neg (by rw [hb]; simp; omega)]
    rw [hb] at HS1
    clear hb
    go_enter Tryz.func19, Tryz.ntmps19
    go_wp2_with (first
      | (go_at_call 39; with_reducible refine (HS.out _).mono ?_; rintro e w1 ⟨rfl, rfl⟩)
      | (go_at_call 39; with_reducible refine (HS1.out _).mono ?_; rintro e w1 ⟨rfl, rfl⟩)
      | (go_at_call 40; with_reducible refine (HG.out _).mono ?_; rintro e w1 ⟨rfl, rfl⟩)
      | (go_at_call 41; with_reducible refine (HN.out _).mono ?_; rintro e w1 ⟨rfl, rfl⟩))
    all_goals
      have hB : Below w.heap.size w _ := below_alloc w (.cells #[.int .i64 0, .string ⟨#[]⟩, .int .i64 0, .int .i64 0] 32)
      have k0 := hb_new w (.cells #[.int .i64 0, .string ⟨#[]⟩, .int .i64 0, .int .i64 0] 32)
      have r0 := hb_at k0 0 rfl
      have r1 := hb_at k0 1 rfl
      have r2 := hb_at k0 2 rfl
      have r3 := hb_at k0 3 rfl
      exact bodyPost_ret (v := .tuple #[Tk.v ⟨3, s.extract 1 (1 + n), 0⟩ 0, .int .i64 ((1 + n : Nat))]) (by simp [results, Tryz.results19, go_sem, r0, r1, r2, r3, tk0, Tk.v]; omega) rfl ⟨rfl, by first | exact hB | exact below_alloc w _ | exact (((hB.setCell (by simp) _).setCell (by simp) _).setCell (by simp) _).setCell (by simp) _⟩

set_option maxHeartbeats 8000000 in
set_option maxRecDepth 100000 in
theorem one_int0 (s : ByteArray) (hm : s.size ≤ 4194304) (h0 : 0 < s.size) (hd : dgB s[0] = true) (hv : verD s.data.toList = 0) (w : World) :
    Calls Tryz.prog 19 #[.string s, .int .i64 0] w fun e w' => e = .returned (.tuple #[(intDD s.data.toList 0).1.v 0, .int .i64 (intDD s.data.toList 0).2]) ∧ Below w.heap.size w w' := by
  have hci : (0 : Int) < (s.size : Int) := by omega
  have HS := Lib.hid (fun W => smD_any s[0] W)
  have HG := Lib.hid (fun W => grD_any s[0] W)
  have HD := Lib.hid (fun W => digD_any s[0] W)
  obtain ⟨fS, fG, n95, n39, n34, n45, _⟩ := dg_far hd
  rw [fS] at HS
  rw [fG] at HG
  rw [hd] at HD
  have HV := Lib.hid (fun W => version_doc s hm W)
  rw [hv] at HV
  have e95 : ((s[0].toNat : Int) == 95) = false := by rw [beq_eq_false_iff_ne]; omega
  have e39 : ((s[0].toNat : Int) == 39) = false := by rw [beq_eq_false_iff_ne]; omega
  have e34 : ((s[0].toNat : Int) == 34) = false := by rw [beq_eq_false_iff_ne]; omega
  have e45 : ((s[0].toNat : Int) == 45) = false := by rw [beq_eq_false_iff_ne]; omega
  have HDS := Lib.hid (fun W => digits0_any s hm W)
  have hdrop : s.data.toList.drop 0 = s.data.toList := List.drop_zero
  have hle := cnt_le dgB s.data.toList
  rw [len_list] at hle
  have hE : intDD s.data.toList 0 = (if cnt dgB s.data.toList = 0 ∨ 18 < cnt dgB s.data.toList ∨ (1 < cnt dgB s.data.toList ∧ zhB s.data.toList = true) then (tk0, 0) else (⟨4, ⟨#[]⟩, (Sv.val (s.extract 0 (cnt dgB s.data.toList)).data.toList : Nat)⟩, cnt dgB s.data.toList)) := by
    unfold intDD
    rw [hdrop, ext0, ofL_list]
    by_cases hc : cnt dgB s.data.toList = 0 ∨ 18 < cnt dgB s.data.toList ∨ (1 < cnt dgB s.data.toList ∧ zhB s.data.toList = true)
    · rw [if_pos hc, if_pos]
      rcases hc with h | h | h
      · exact .inl h
      · exact .inr (.inl h)
      · exact .inr (.inr (.inl h))
    · rw [if_neg hc, if_neg]
      · simp
      · rintro (h | h | h | ⟨h, _⟩)
        · exact hc (.inl h)
        · exact hc (.inr (.inl h))
        · exact hc (.inr (.inr h))
        · omega
  rw [hE]
  have hall : ∀ c ∈ (s.extract 0 (cnt dgB s.data.toList)).data.toList, dgB c = true := by
    rw [ext0, ofL_list, take_cnt]
    exact takeW_all dgB _
  have hz := zh_at h0
  clear hE hd hv fS fG n95 n39 n34 n45 hdrop
  generalize cnt dgB s.data.toList = n at *
  by_cases hn0 : n = 0
  · rw [if_pos (.inl hn0)]
    subst hn0
    go_enter Tryz.func19, Tryz.ntmps19
    go_wp2_with (first
      | (go_at_call 39; with_reducible refine (HS.out _).mono ?_; rintro e w1 ⟨rfl, rfl⟩)
      | (go_at_call 40; with_reducible refine (HG.out _).mono ?_; rintro e w1 ⟨rfl, rfl⟩)
      | (go_at_call 43; with_reducible refine (HD.out _).mono ?_; rintro e w1 ⟨rfl, rfl⟩)
      | (go_at_call 44; with_reducible refine (HV.out _).mono ?_; rintro e w4 ⟨rfl, hb4⟩; have HB4 := Lib.hid hb4; have z4 := hb4.size; rw [World.size_alloc] at z4; have y4 : w.heap.size < w4.heap.size := (by omega); have k4 := hb_below (hb_new w (.cells #[.int .i64 0, .string ⟨#[]⟩, .int .i64 0, .int .i64 0] 32)) hb4 (by simp); have f0 := hb_free k4 0; have f1 := hb_free k4 1; have f2 := hb_free k4 2; have f3 := hb_free k4 3; have r0 := hb_at k4 0 rfl; have r1 := hb_at k4 1 rfl; have r2 := hb_at k4 2 rfl; have r3 := hb_at k4 3 rfl; clear k4; clear hb4)
      | (go_at_call 45; with_reducible refine (HDS.out _).mono ?_; rintro e w1 ⟨rfl, rfl⟩))
    all_goals
      have hB : Below w.heap.size w _ := (below_alloc w (.cells #[.int .i64 0, .string ⟨#[]⟩, .int .i64 0, .int .i64 0] 32)).trans (HB4.out.mono (by simp))
      have k0 := hb_below (hb_new w (.cells #[.int .i64 0, .string ⟨#[]⟩, .int .i64 0, .int .i64 0] 32)) HB4.out (by simp)
      have r0 := hb_at k0 0 rfl
      have r1 := hb_at k0 1 rfl
      have r2 := hb_at k0 2 rfl
      have r3 := hb_at k0 3 rfl
      exact bodyPost_ret (v := .tuple #[tk0.v 0, .int .i64 0]) (by simp [results, Tryz.results19, go_sem, r0, r1, r2, r3, tk0, Tk.v]) rfl ⟨rfl, by first | exact hB | exact below_alloc w _ | exact (((hB.setCell (by simp) _).setCell (by simp) _).setCell (by simp) _).setCell (by simp) _⟩
  have n0 : ((n : Int) == 0) = false := by rw [beq_eq_false_iff_ne]; omega
  by_cases h18 : 18 < n
  · rw [if_pos (.inr (.inl h18))]
    have d18 : decide ((18 : Int) < (n : Int)) = true := by simp; omega
    go_enter Tryz.func19, Tryz.ntmps19
    go_wp2_with (first
      | (go_at_call 39; with_reducible refine (HS.out _).mono ?_; rintro e w1 ⟨rfl, rfl⟩)
      | (go_at_call 40; with_reducible refine (HG.out _).mono ?_; rintro e w1 ⟨rfl, rfl⟩)
      | (go_at_call 43; with_reducible refine (HD.out _).mono ?_; rintro e w1 ⟨rfl, rfl⟩)
      | (go_at_call 44; with_reducible refine (HV.out _).mono ?_; rintro e w4 ⟨rfl, hb4⟩; have HB4 := Lib.hid hb4; have z4 := hb4.size; rw [World.size_alloc] at z4; have y4 : w.heap.size < w4.heap.size := (by omega); have k4 := hb_below (hb_new w (.cells #[.int .i64 0, .string ⟨#[]⟩, .int .i64 0, .int .i64 0] 32)) hb4 (by simp); have f0 := hb_free k4 0; have f1 := hb_free k4 1; have f2 := hb_free k4 2; have f3 := hb_free k4 3; have r0 := hb_at k4 0 rfl; have r1 := hb_at k4 1 rfl; have r2 := hb_at k4 2 rfl; have r3 := hb_at k4 3 rfl; clear k4; clear hb4)
      | (go_at_call 45; with_reducible refine (HDS.out _).mono ?_; rintro e w1 ⟨rfl, rfl⟩))
    all_goals
      have hB : Below w.heap.size w _ := (below_alloc w (.cells #[.int .i64 0, .string ⟨#[]⟩, .int .i64 0, .int .i64 0] 32)).trans (HB4.out.mono (by simp))
      have k0 := hb_below (hb_new w (.cells #[.int .i64 0, .string ⟨#[]⟩, .int .i64 0, .int .i64 0] 32)) HB4.out (by simp)
      have r0 := hb_at k0 0 rfl
      have r1 := hb_at k0 1 rfl
      have r2 := hb_at k0 2 rfl
      have r3 := hb_at k0 3 rfl
      exact bodyPost_ret (v := .tuple #[tk0.v 0, .int .i64 0]) (by simp [results, Tryz.results19, go_sem, r0, r1, r2, r3, tk0, Tk.v]) rfl ⟨rfl, by first | exact hB | exact below_alloc w _ | exact (((hB.setCell (by simp) _).setCell (by simp) _).setCell (by simp) _).setCell (by simp) _⟩
  have d18 : decide ((18 : Int) < (n : Int)) = false := by simp; omega
  have HNU := Lib.hid (fun W => numberD_any (s.extract 0 n) hall (by rw [ByteArray.size_extract]; omega) W)
  have hvl := Sv.val_lt (s.extract 0 n).data.toList (fun c hc => by rw [← dg_is]; exact hall c hc)
  have hsz : (s.extract 0 n).data.toList.length ≤ 18 := by rw [len_list, ByteArray.size_extract]; omega
  have h10 : 10 ^ (s.extract 0 n).data.toList.length ≤ 10 ^ 18 := Nat.pow_le_pow_right (by decide) hsz
  have h1018 : (10 : Nat) ^ 18 = 1000000000000000000 := by decide
  generalize Sv.val (s.extract 0 n).data.toList = V at *
  have hVb : V ≤ 1000000000000000000 := by omega
  clear hvl hsz h10 h1018 hall
  have hni : (n : Int) ≤ (s.size : Int) := by omega
  cases hb : ((s[0].toNat : Int) == 48)
  · rw [if_neg (by rw [hz, hb]; simp; omega)]
    clear hz
    go_enter Tryz.func19, Tryz.ntmps19
    go_wp2_with (first
      | (go_at_call 39; with_reducible refine (HS.out _).mono ?_; rintro e w1 ⟨rfl, rfl⟩)
      | (go_at_call 40; with_reducible refine (HG.out _).mono ?_; rintro e w1 ⟨rfl, rfl⟩)
      | (go_at_call 43; with_reducible refine (HD.out _).mono ?_; rintro e w1 ⟨rfl, rfl⟩)
      | (go_at_call 44; with_reducible refine (HV.out _).mono ?_; rintro e w4 ⟨rfl, hb4⟩; have HB4 := Lib.hid hb4; have z4 := hb4.size; rw [World.size_alloc] at z4; have y4 : w.heap.size < w4.heap.size := (by omega); have k4 := hb_below (hb_new w (.cells #[.int .i64 0, .string ⟨#[]⟩, .int .i64 0, .int .i64 0] 32)) hb4 (by simp); have f0 := hb_free k4 0; have f1 := hb_free k4 1; have f2 := hb_free k4 2; have f3 := hb_free k4 3; have r0 := hb_at k4 0 rfl; have r1 := hb_at k4 1 rfl; have r2 := hb_at k4 2 rfl; have r3 := hb_at k4 3 rfl; clear k4; clear hb4)
      | (go_at_call 45; with_reducible refine (HDS.out _).mono ?_; rintro e w1 ⟨rfl, rfl⟩)
      | (go_at_call 46; with_reducible refine (HNU.out _).mono ?_; rintro e w1 ⟨rfl, rfl⟩))
    all_goals
      have hB : Below w.heap.size w _ := (below_alloc w (.cells #[.int .i64 0, .string ⟨#[]⟩, .int .i64 0, .int .i64 0] 32)).trans (HB4.out.mono (by simp))
      have k0 := hb_below (hb_new w (.cells #[.int .i64 0, .string ⟨#[]⟩, .int .i64 0, .int .i64 0] 32)) HB4.out (by simp)
      have r0 := hb_at k0 0 rfl
      have r1 := hb_at k0 1 rfl
      have r2 := hb_at k0 2 rfl
      have r3 := hb_at k0 3 rfl
      exact bodyPost_ret (v := .tuple #[Tk.v ⟨4, ⟨#[]⟩, (V : Nat)⟩ 0, .int .i64 n]) (by simp [results, Tryz.results19, go_sem, r0, r1, r2, r3, tk0, Tk.v]) rfl ⟨rfl, by first | exact hB | exact below_alloc w _ | exact (((hB.setCell (by simp) _).setCell (by simp) _).setCell (by simp) _).setCell (by simp) _⟩
  · by_cases h1 : 1 < n
    · rw [if_pos (.inr (.inr ⟨h1, by rw [hz, hb]⟩))]
      have d1 : decide ((1 : Int) < (n : Int)) = true := by simp; omega
      clear hz
      go_enter Tryz.func19, Tryz.ntmps19
      go_wp2_with (first
        | (go_at_call 39; with_reducible refine (HS.out _).mono ?_; rintro e w1 ⟨rfl, rfl⟩)
        | (go_at_call 40; with_reducible refine (HG.out _).mono ?_; rintro e w1 ⟨rfl, rfl⟩)
        | (go_at_call 43; with_reducible refine (HD.out _).mono ?_; rintro e w1 ⟨rfl, rfl⟩)
        | (go_at_call 44; with_reducible refine (HV.out _).mono ?_; rintro e w4 ⟨rfl, hb4⟩; have HB4 := Lib.hid hb4; have z4 := hb4.size; rw [World.size_alloc] at z4; have y4 : w.heap.size < w4.heap.size := (by omega); have k4 := hb_below (hb_new w (.cells #[.int .i64 0, .string ⟨#[]⟩, .int .i64 0, .int .i64 0] 32)) hb4 (by simp); have f0 := hb_free k4 0; have f1 := hb_free k4 1; have f2 := hb_free k4 2; have f3 := hb_free k4 3; have r0 := hb_at k4 0 rfl; have r1 := hb_at k4 1 rfl; have r2 := hb_at k4 2 rfl; have r3 := hb_at k4 3 rfl; clear k4; clear hb4)
        | (go_at_call 45; with_reducible refine (HDS.out _).mono ?_; rintro e w1 ⟨rfl, rfl⟩))
      all_goals
        have hB : Below w.heap.size w _ := (below_alloc w (.cells #[.int .i64 0, .string ⟨#[]⟩, .int .i64 0, .int .i64 0] 32)).trans (HB4.out.mono (by simp))
        have k0 := hb_below (hb_new w (.cells #[.int .i64 0, .string ⟨#[]⟩, .int .i64 0, .int .i64 0] 32)) HB4.out (by simp)
        have r0 := hb_at k0 0 rfl
        have r1 := hb_at k0 1 rfl
        have r2 := hb_at k0 2 rfl
        have r3 := hb_at k0 3 rfl
        exact bodyPost_ret (v := .tuple #[tk0.v 0, .int .i64 0]) (by simp [results, Tryz.results19, go_sem, r0, r1, r2, r3, tk0, Tk.v]) rfl ⟨rfl, by first | exact hB | exact below_alloc w _ | exact (((hB.setCell (by simp) _).setCell (by simp) _).setCell (by simp) _).setCell (by simp) _⟩
    · rw [if_neg (by rw [hz, hb]; simp; omega)]
      have d1 : decide ((1 : Int) < (n : Int)) = false := by simp; omega
      clear hz
      go_enter Tryz.func19, Tryz.ntmps19
      go_wp2_with (first
        | (go_at_call 39; with_reducible refine (HS.out _).mono ?_; rintro e w1 ⟨rfl, rfl⟩)
        | (go_at_call 40; with_reducible refine (HG.out _).mono ?_; rintro e w1 ⟨rfl, rfl⟩)
        | (go_at_call 43; with_reducible refine (HD.out _).mono ?_; rintro e w1 ⟨rfl, rfl⟩)
        | (go_at_call 44; with_reducible refine (HV.out _).mono ?_; rintro e w4 ⟨rfl, hb4⟩; have HB4 := Lib.hid hb4; have z4 := hb4.size; rw [World.size_alloc] at z4; have y4 : w.heap.size < w4.heap.size := (by omega); have k4 := hb_below (hb_new w (.cells #[.int .i64 0, .string ⟨#[]⟩, .int .i64 0, .int .i64 0] 32)) hb4 (by simp); have f0 := hb_free k4 0; have f1 := hb_free k4 1; have f2 := hb_free k4 2; have f3 := hb_free k4 3; have r0 := hb_at k4 0 rfl; have r1 := hb_at k4 1 rfl; have r2 := hb_at k4 2 rfl; have r3 := hb_at k4 3 rfl; clear k4; clear hb4)
        | (go_at_call 45; with_reducible refine (HDS.out _).mono ?_; rintro e w1 ⟨rfl, rfl⟩)
        | (go_at_call 46; with_reducible refine (HNU.out _).mono ?_; rintro e w1 ⟨rfl, rfl⟩))
      all_goals
        have hB : Below w.heap.size w _ := (below_alloc w (.cells #[.int .i64 0, .string ⟨#[]⟩, .int .i64 0, .int .i64 0] 32)).trans (HB4.out.mono (by simp))
        have k0 := hb_below (hb_new w (.cells #[.int .i64 0, .string ⟨#[]⟩, .int .i64 0, .int .i64 0] 32)) HB4.out (by simp)
        have r0 := hb_at k0 0 rfl
        have r1 := hb_at k0 1 rfl
        have r2 := hb_at k0 2 rfl
        have r3 := hb_at k0 3 rfl
        exact bodyPost_ret (v := .tuple #[Tk.v ⟨4, ⟨#[]⟩, (V : Nat)⟩ 0, .int .i64 n]) (by simp [results, Tryz.results19, go_sem, r0, r1, r2, r3, tk0, Tk.v]) rfl ⟨rfl, by first | exact hB | exact below_alloc w _ | exact (((hB.setCell (by simp) _).setCell (by simp) _).setCell (by simp) _).setCell (by simp) _⟩
set_option maxHeartbeats 8000000 in
set_option maxRecDepth 100000 in
theorem one_int1 (s : ByteArray) (hm : s.size ≤ 4194304) (h0 : 0 < s.size) (h45 : s[0].toNat = 45) (hp : s.data.toList.take 2 ≠ [45, 62]) (w : World) :
    Calls Tryz.prog 19 #[.string s, .int .i64 0] w fun e w' => e = .returned (.tuple #[(intDD s.data.toList 1).1.v 0, .int .i64 (intDD s.data.toList 1).2]) ∧ Below w.heap.size w w' := by
  have hci : (0 : Int) < (s.size : Int) := by omega
  have HS := Lib.hid (fun W => smD_any s[0] W)
  have HG := Lib.hid (fun W => grD_any s[0] W)
  have HD := Lib.hid (fun W => digD_any s[0] W)
  have fS : smB s[0] = false := by unfold smB; simp; omega
  have fG : grB s[0] = false := by unfold grB; simp; omega
  have fD : dgB s[0] = false := by unfold dgB; simp; omega
  rw [fS] at HS
  rw [fG] at HG
  rw [fD] at HD
  have e95 : ((s[0].toNat : Int) == 95) = false := by rw [h45]; rfl
  have e39 : ((s[0].toNat : Int) == 39) = false := by rw [h45]; rfl
  have e34 : ((s[0].toNat : Int) == 34) = false := by rw [h45]; rfl
  have e45 : ((s[0].toNat : Int) == 45) = true := by rw [h45]; rfl
  have HP : (1 < s.size ∧ ∃ h : 1 < s.size, ((s[1].toNat : Int) == 62) = false) ∨ ¬ 1 < s.size := by
    by_cases h1 : 1 < s.size
    · refine .inl ⟨h1, h1, ?_⟩
      rw [beq_eq_false_iff_ne]
      intro e
      exact hp ((take2_at h1 h45).2 (by omega))
    · exact .inr h1
  have HDS := Lib.hid (fun W => digitsB_any s hm h0 W)
  have hle := cnt_le dgB (s.data.toList.drop 1)
  rw [List.length_drop, len_list] at hle
  have hE : intDD s.data.toList 1 = (if cnt dgB (s.data.toList.drop 1) = 0 ∨ 18 < cnt dgB (s.data.toList.drop 1) ∨ (zhB (s.data.toList.drop 1) = true) then (tk0, 0) else (⟨4, ⟨#[]⟩, -(Sv.val (s.extract 1 (1 + cnt dgB (s.data.toList.drop 1))).data.toList : Nat)⟩, 1 + cnt dgB (s.data.toList.drop 1))) := by
    unfold intDD
    rw [cutL, Nat.add_sub_cancel_left, ofL_list]
    by_cases hc : cnt dgB (s.data.toList.drop 1) = 0 ∨ 18 < cnt dgB (s.data.toList.drop 1) ∨ (zhB (s.data.toList.drop 1) = true)
    · rw [if_pos hc, if_pos]
      rcases hc with h | h | h
      · exact .inl h
      · exact .inr (.inl h)
      · exact .inr (.inr (.inr ⟨rfl, h⟩))
    · rw [if_neg hc, if_neg]
      · simp
      · rintro (h | h | ⟨_, h⟩ | ⟨_, h⟩)
        · exact hc (.inl h)
        · exact hc (.inr (.inl h))
        · exact hc (.inr (.inr h))
        · exact hc (.inr (.inr h))
  rw [hE]
  have hall : ∀ c ∈ (s.extract 1 (1 + cnt dgB (s.data.toList.drop 1))).data.toList, dgB c = true := by
    rw [cutL, Nat.add_sub_cancel_left, ofL_list, take_cnt]
    exact takeW_all dgB _
  have hz : ∀ h : 1 < s.size, zhB (s.data.toList.drop 1) = ((s[1].toNat : Int) == 48) := by
    intro h
    have h2 := zh_at (s := s.extract 1 s.size) (by rw [sfx_size]; omega)
    rw [sfx_list] at h2
    rw [h2]
    have h3 := at_list (s.extract 1 s.size) 0 (by rw [sfx_size]; omega)
    rw [sfx_list, List.getElem?_drop, at_list s 1 h] at h3
    rw [← Option.some.inj h3]
  clear hE fS fG fD h45 hp
  generalize cnt dgB (s.data.toList.drop 1) = n at *
  rcases HP with ⟨h1, h1', hne⟩ | h1
  · have h1i : (1 : Int) < (s.size : Int) := by omega
    by_cases hn0 : n = 0
    · rw [if_pos (.inl hn0)]
      subst hn0
      go_enter Tryz.func19, Tryz.ntmps19
      go_wp2_with (first
        | (go_at_call 39; with_reducible refine (HS.out _).mono ?_; rintro e w1 ⟨rfl, rfl⟩)
        | (go_at_call 40; with_reducible refine (HG.out _).mono ?_; rintro e w1 ⟨rfl, rfl⟩)
        | (go_at_call 43; with_reducible refine (HD.out _).mono ?_; rintro e w1 ⟨rfl, rfl⟩)
        | (go_at_call 45; with_reducible refine (HDS.out _).mono ?_; rintro e w1 ⟨rfl, rfl⟩))
      all_goals
        have hB : Below w.heap.size w _ := below_alloc w (.cells #[.int .i64 0, .string ⟨#[]⟩, .int .i64 0, .int .i64 0] 32)
        have k0 := hb_new w (.cells #[.int .i64 0, .string ⟨#[]⟩, .int .i64 0, .int .i64 0] 32)
        have r0 := hb_at k0 0 rfl
        have r1 := hb_at k0 1 rfl
        have r2 := hb_at k0 2 rfl
        have r3 := hb_at k0 3 rfl
        exact bodyPost_ret (v := .tuple #[tk0.v 0, .int .i64 0]) (by simp [results, Tryz.results19, go_sem, r0, r1, r2, r3, tk0, Tk.v]) rfl ⟨rfl, by first | exact hB | exact below_alloc w _ | exact (((hB.setCell (by simp) _).setCell (by simp) _).setCell (by simp) _).setCell (by simp) _⟩
    have n0 : ((n : Int) == 0) = false := by rw [beq_eq_false_iff_ne]; omega
    by_cases h18 : 18 < n
    · rw [if_pos (.inr (.inl h18))]
      have d18 : decide ((18 : Int) < (n : Int)) = true := by simp; omega
      go_enter Tryz.func19, Tryz.ntmps19
      go_wp2_with (first
        | (go_at_call 39; with_reducible refine (HS.out _).mono ?_; rintro e w1 ⟨rfl, rfl⟩)
        | (go_at_call 40; with_reducible refine (HG.out _).mono ?_; rintro e w1 ⟨rfl, rfl⟩)
        | (go_at_call 43; with_reducible refine (HD.out _).mono ?_; rintro e w1 ⟨rfl, rfl⟩)
        | (go_at_call 45; with_reducible refine (HDS.out _).mono ?_; rintro e w1 ⟨rfl, rfl⟩))
      all_goals
        have hB : Below w.heap.size w _ := below_alloc w (.cells #[.int .i64 0, .string ⟨#[]⟩, .int .i64 0, .int .i64 0] 32)
        have k0 := hb_new w (.cells #[.int .i64 0, .string ⟨#[]⟩, .int .i64 0, .int .i64 0] 32)
        have r0 := hb_at k0 0 rfl
        have r1 := hb_at k0 1 rfl
        have r2 := hb_at k0 2 rfl
        have r3 := hb_at k0 3 rfl
        exact bodyPost_ret (v := .tuple #[tk0.v 0, .int .i64 0]) (by simp [results, Tryz.results19, go_sem, r0, r1, r2, r3, tk0, Tk.v]) rfl ⟨rfl, by first | exact hB | exact below_alloc w _ | exact (((hB.setCell (by simp) _).setCell (by simp) _).setCell (by simp) _).setCell (by simp) _⟩
    have d18 : decide ((18 : Int) < (n : Int)) = false := by simp; omega
    have HNU := Lib.hid (fun W => numberD_any (s.extract 1 (1 + n)) hall (by rw [ByteArray.size_extract]; omega) W)
    have hvl := Sv.val_lt (s.extract 1 (1 + n)).data.toList (fun c hc => by rw [← dg_is]; exact hall c hc)
    have hsz : (s.extract 1 (1 + n)).data.toList.length ≤ 18 := by rw [len_list, ByteArray.size_extract]; omega
    have h10 : 10 ^ (s.extract 1 (1 + n)).data.toList.length ≤ 10 ^ 18 := Nat.pow_le_pow_right (by decide) hsz
    have h1018 : (10 : Nat) ^ 18 = 1000000000000000000 := by decide
    generalize Sv.val (s.extract 1 (1 + n)).data.toList = V at *
    have hVb : V ≤ 1000000000000000000 := by omega
    clear hvl hsz h10 h1018 hall
    have h2 : 1 < s.size := by omega
    have h2i : (1 : Int) < (s.size : Int) := by omega
    have hni : 1 + (n : Int) ≤ (s.size : Int) := by omega
    cases hb : ((s[1].toNat : Int) == 48)
    · rw [if_neg (by rw [hz h2, hb]; simp; omega)]
      clear hz
      go_enter Tryz.func19, Tryz.ntmps19
      go_wp2_with (first
        | (go_at_call 39; with_reducible refine (HS.out _).mono ?_; rintro e w1 ⟨rfl, rfl⟩)
        | (go_at_call 40; with_reducible refine (HG.out _).mono ?_; rintro e w1 ⟨rfl, rfl⟩)
        | (go_at_call 43; with_reducible refine (HD.out _).mono ?_; rintro e w1 ⟨rfl, rfl⟩)
        | (go_at_call 45; with_reducible refine (HDS.out _).mono ?_; rintro e w1 ⟨rfl, rfl⟩)
        | (go_at_call 46; with_reducible refine (HNU.out _).mono ?_; rintro e w1 ⟨rfl, rfl⟩))
      all_goals
        have hB : Below w.heap.size w _ := below_alloc w (.cells #[.int .i64 0, .string ⟨#[]⟩, .int .i64 0, .int .i64 0] 32)
        have k0 := hb_new w (.cells #[.int .i64 0, .string ⟨#[]⟩, .int .i64 0, .int .i64 0] 32)
        have r0 := hb_at k0 0 rfl
        have r1 := hb_at k0 1 rfl
        have r2 := hb_at k0 2 rfl
        have r3 := hb_at k0 3 rfl
        exact bodyPost_ret (v := .tuple #[Tk.v ⟨4, ⟨#[]⟩, -(V : Nat)⟩ 0, .int .i64 ((1 + n : Nat))]) (by simp [results, Tryz.results19, go_sem, r0, r1, r2, r3, tk0, Tk.v]) rfl ⟨rfl, by first | exact hB | exact below_alloc w _ | exact (((hB.setCell (by simp) _).setCell (by simp) _).setCell (by simp) _).setCell (by simp) _⟩
    · rw [if_pos (.inr (.inr (by rw [hz h2, hb])))]
      clear hz
      by_cases h1n : 1 < n
      · have d1 : decide ((1 : Int) < (n : Int)) = true := by simp; omega
        go_enter Tryz.func19, Tryz.ntmps19
        go_wp2_with (first
          | (go_at_call 39; with_reducible refine (HS.out _).mono ?_; rintro e w1 ⟨rfl, rfl⟩)
          | (go_at_call 40; with_reducible refine (HG.out _).mono ?_; rintro e w1 ⟨rfl, rfl⟩)
          | (go_at_call 43; with_reducible refine (HD.out _).mono ?_; rintro e w1 ⟨rfl, rfl⟩)
          | (go_at_call 45; with_reducible refine (HDS.out _).mono ?_; rintro e w1 ⟨rfl, rfl⟩))
        all_goals
          have hB : Below w.heap.size w _ := below_alloc w (.cells #[.int .i64 0, .string ⟨#[]⟩, .int .i64 0, .int .i64 0] 32)
          have k0 := hb_new w (.cells #[.int .i64 0, .string ⟨#[]⟩, .int .i64 0, .int .i64 0] 32)
          have r0 := hb_at k0 0 rfl
          have r1 := hb_at k0 1 rfl
          have r2 := hb_at k0 2 rfl
          have r3 := hb_at k0 3 rfl
          exact bodyPost_ret (v := .tuple #[tk0.v 0, .int .i64 0]) (by simp [results, Tryz.results19, go_sem, r0, r1, r2, r3, tk0, Tk.v]) rfl ⟨rfl, by first | exact hB | exact below_alloc w _ | exact (((hB.setCell (by simp) _).setCell (by simp) _).setCell (by simp) _).setCell (by simp) _⟩
      · have d1 : decide ((1 : Int) < (n : Int)) = false := by simp; omega
        go_enter Tryz.func19, Tryz.ntmps19
        go_wp2_with (first
          | (go_at_call 39; with_reducible refine (HS.out _).mono ?_; rintro e w1 ⟨rfl, rfl⟩)
          | (go_at_call 40; with_reducible refine (HG.out _).mono ?_; rintro e w1 ⟨rfl, rfl⟩)
          | (go_at_call 43; with_reducible refine (HD.out _).mono ?_; rintro e w1 ⟨rfl, rfl⟩)
          | (go_at_call 45; with_reducible refine (HDS.out _).mono ?_; rintro e w1 ⟨rfl, rfl⟩))
        all_goals
          have hB : Below w.heap.size w _ := below_alloc w (.cells #[.int .i64 0, .string ⟨#[]⟩, .int .i64 0, .int .i64 0] 32)
          have k0 := hb_new w (.cells #[.int .i64 0, .string ⟨#[]⟩, .int .i64 0, .int .i64 0] 32)
          have r0 := hb_at k0 0 rfl
          have r1 := hb_at k0 1 rfl
          have r2 := hb_at k0 2 rfl
          have r3 := hb_at k0 3 rfl
          exact bodyPost_ret (v := .tuple #[tk0.v 0, .int .i64 0]) (by simp [results, Tryz.results19, go_sem, r0, r1, r2, r3, tk0, Tk.v]) rfl ⟨rfl, by first | exact hB | exact below_alloc w _ | exact (((hB.setCell (by simp) _).setCell (by simp) _).setCell (by simp) _).setCell (by simp) _⟩
  · have hn0 : n = 0 := by omega
    have h1i : ¬ (1 : Int) < (s.size : Int) := by omega
    have hss : s.size = 1 := by omega
    rw [if_pos (.inl hn0)]
    subst hn0
    clear hall hz
    go_enter Tryz.func19, Tryz.ntmps19
    go_wp2_with (first
      | (go_at_call 39; with_reducible refine (HS.out _).mono ?_; rintro e w1 ⟨rfl, rfl⟩)
      | (go_at_call 40; with_reducible refine (HG.out _).mono ?_; rintro e w1 ⟨rfl, rfl⟩)
      | (go_at_call 43; with_reducible refine (HD.out _).mono ?_; rintro e w1 ⟨rfl, rfl⟩)
      | (go_at_call 45; with_reducible refine (HDS.out _).mono ?_; rintro e w1 ⟨rfl, rfl⟩))
    all_goals
      have hB : Below w.heap.size w _ := below_alloc w (.cells #[.int .i64 0, .string ⟨#[]⟩, .int .i64 0, .int .i64 0] 32)
      have k0 := hb_new w (.cells #[.int .i64 0, .string ⟨#[]⟩, .int .i64 0, .int .i64 0] 32)
      have r0 := hb_at k0 0 rfl
      have r1 := hb_at k0 1 rfl
      have r2 := hb_at k0 2 rfl
      have r3 := hb_at k0 3 rfl
      exact bodyPost_ret (v := .tuple #[tk0.v 0, .int .i64 0]) (by simp [results, Tryz.results19, go_sem, r0, r1, r2, r3, tk0, Tk.v]) rfl ⟨rfl, by first | exact hB | exact below_alloc w _ | exact (((hB.setCell (by simp) _).setCell (by simp) _).setCell (by simp) _).setCell (by simp) _⟩
end Go.Proofs.YtpedmkdpbdhenaaGreatDoor
