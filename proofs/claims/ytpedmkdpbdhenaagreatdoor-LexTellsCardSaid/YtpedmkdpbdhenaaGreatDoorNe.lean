/- A text, as the document reads it. -/
import Derived.Test.YtpedmkdpbdhenaaGreatDoorNd
namespace Go.Proofs.YtpedmkdpbdhenaaGreatDoor
open Go.RowKit
set_option linter.unusedSimpArgs false
set_option linter.unusedVariables false
theorem str_snoc (said : List UInt8) (c : UInt8) (b : ByteArray) (h : b = ofL [c]) : ofL said ++ b = ofL (said ++ [c]) := by
  rw [h, ofL_app]
set_option maxHeartbeats 8000000 in
set_option maxRecDepth 100000 in
theorem text_doc (s : ByteArray) (hm : s.size ≤ 4194304) (w : World) :
    Calls Tryz.prog 42 #[.string s, .int .i64 0] w fun e w' => e = .returned (.tuple #[(txR (tdM s.data.toList 1 [])).1.v 0, .int .i64 (txR (tdM s.data.toList 1 [])).2]) ∧ Below w.heap.size w w' := by
  obtain ⟨R, hR⟩ : ∃ R, tdM s.data.toList 1 [] = R := ⟨_, rfl⟩
  rw [hR]
  go_enter Tryz.func42, Tryz.ntmps42
  go_wp2
  go_loop [6, 7] (fun o i => ∃ (k : Nat) (said : List UInt8), i = .int .i64 k ∧ o = .string (ofL said) ∧ tdM s.data.toList k said = R ∧ said.length ≤ k ∧ k ≤ s.size + 1) (fun _ i => s.size + 1 - (intOf i).toNat)
  case atStart => exact ⟨1, [], rfl, rfl, hR, by simp, by omega⟩
  case round =>
    obtain ⟨k, said, rfl, rfl, hT, hsl, hks⟩ := hrel
    have HS := Lib.hid (tdM_step s.data.toList k said)
    rw [hT] at HS
    clear hT
    have hss : (ofL said).size = said.length := ofL_size said
    by_cases hk : k < s.size
    · have hki : (k : Int) < (s.size : Int) := by omega
      have hk1 : (k : Int) + 1 ≤ (s.size : Int) := by omega
      have HC := Lib.hid (at_list s k hk)
      have HK := Lib.hid (keep_one hk)
      have HQ : R = (if s[k].toNat = 34 then (if 1000 < said.length then none else some (said, k + 1)) else if s[k].toNat < 32 ∨ 126 < s[k].toNat then none else if s[k].toNat = 92 then (match s.data.toList[k + 1]? with
        | none => none
        | some d => if (escV d.toNat).2 then tdM s.data.toList (k + 2) (said ++ [UInt8.ofNat (escV d.toNat).1]) else none) else tdM s.data.toList (k + 1) (said ++ [s[k]])) := by
        rw [HS.out, HC.out]
        rfl
      clear HS
      by_cases h34 : s[k].toNat = 34
      · have e34 : ((s[k].toNat : Int) == 34) = true := by rw [h34]; rfl
        rw [if_pos h34] at HQ
        clear h34
        by_cases hl : 1000 < said.length
        · have hli : decide ((1000 : Int) < (said.length : Int)) = true := by simp; omega
          rw [if_pos hl] at HQ
          subst HQ
          go_wp2
          have k0 := hb_new w (.cells #[.int .i64 0, .string ⟨#[]⟩, .int .i64 0, .int .i64 0] 32)
          have r0 := hb_at k0 0 rfl
          have r1 := hb_at k0 1 rfl
          have r2 := hb_at k0 2 rfl
          have r3 := hb_at k0 3 rfl
          have hB := below_alloc w (.cells #[.int .i64 0, .string ⟨#[]⟩, .int .i64 0, .int .i64 0] 32)
          exact bodyPost_ret (v := .tuple #[tk0.v 0, .int .i64 0]) (by simp [results, Tryz.results42, go_sem, r0, r1, r2, r3, tk0, Tk.v]) rfl ⟨rfl, by first | exact hB | exact (((hB.setCell (by simp) _).setCell (by simp) _).setCell (by simp) _).setCell (by simp) _⟩
        · have hli : decide ((1000 : Int) < (said.length : Int)) = false := by simp; omega
          rw [if_neg hl] at HQ
          subst HQ
          go_wp2
          have k0 := hb_new w (.cells #[.int .i64 0, .string ⟨#[]⟩, .int .i64 0, .int .i64 0] 32)
          have hB := below_alloc w (.cells #[.int .i64 0, .string ⟨#[]⟩, .int .i64 0, .int .i64 0] 32)
          have r0 := hb_at k0 0 rfl
          have r1 := hb_at k0 1 rfl
          have r2 := hb_at k0 2 rfl
          have r3 := hb_at k0 3 rfl
          exact bodyPost_ret (v := .tuple #[Tk.v ⟨5, ofL said, 0⟩ 0, .int .i64 ((k : Int) + 1)]) (by simp [results, Tryz.results42, go_sem, r0, r1, r2, r3, Tk.v]) rfl ⟨rfl, by first | exact hB | exact below_alloc w _ | exact (((hB.setCell (by simp) _).setCell (by simp) _).setCell (by simp) _).setCell (by simp) _⟩
      have e34 : ((s[k].toNat : Int) == 34) = false := by rw [beq_eq_false_iff_ne]; omega
      rw [if_neg h34] at HQ
      by_cases h32 : s[k].toNat < 32
      · have d32 : decide ((s[k].toNat : Int) < 32) = true := by simp; omega
        rw [if_pos (.inl h32)] at HQ
        subst HQ
        clear h32 h34
        go_wp2
        have k0 := hb_new w (.cells #[.int .i64 0, .string ⟨#[]⟩, .int .i64 0, .int .i64 0] 32)
        have r0 := hb_at k0 0 rfl
        have r1 := hb_at k0 1 rfl
        have r2 := hb_at k0 2 rfl
        have r3 := hb_at k0 3 rfl
        have hB := below_alloc w (.cells #[.int .i64 0, .string ⟨#[]⟩, .int .i64 0, .int .i64 0] 32)
        exact bodyPost_ret (v := .tuple #[tk0.v 0, .int .i64 0]) (by simp [results, Tryz.results42, go_sem, r0, r1, r2, r3, tk0, Tk.v]) rfl ⟨rfl, by first | exact hB | exact (((hB.setCell (by simp) _).setCell (by simp) _).setCell (by simp) _).setCell (by simp) _⟩
      have d32 : decide ((s[k].toNat : Int) < 32) = false := by simp; omega
      by_cases h126 : 126 < s[k].toNat
      · have d126 : decide (126 < (s[k].toNat : Int)) = true := by simp; omega
        rw [if_pos (.inr h126)] at HQ
        subst HQ
        clear h32 h34 h126
        go_wp2
        have k0 := hb_new w (.cells #[.int .i64 0, .string ⟨#[]⟩, .int .i64 0, .int .i64 0] 32)
        have r0 := hb_at k0 0 rfl
        have r1 := hb_at k0 1 rfl
        have r2 := hb_at k0 2 rfl
        have r3 := hb_at k0 3 rfl
        have hB := below_alloc w (.cells #[.int .i64 0, .string ⟨#[]⟩, .int .i64 0, .int .i64 0] 32)
        exact bodyPost_ret (v := .tuple #[tk0.v 0, .int .i64 0]) (by simp [results, Tryz.results42, go_sem, r0, r1, r2, r3, tk0, Tk.v]) rfl ⟨rfl, by first | exact hB | exact (((hB.setCell (by simp) _).setCell (by simp) _).setCell (by simp) _).setCell (by simp) _⟩
      have d126 : decide (126 < (s[k].toNat : Int)) = false := by simp; omega
      rw [if_neg (by omega)] at HQ
      by_cases h92 : s[k].toNat = 92
      rotate_left
      · have e92 : ((s[k].toNat : Int) != 92) = true := by simp; omega
        rw [if_neg h92] at HQ
        have HX := Lib.hid HQ
        clear HQ h34 h32 h126 h92
        go_wp2
        go_round
        case rel => exact ⟨k + 1, said ++ [s[k]], by go_num, congrArg Value.string (str_snoc said s[k] _ HK.out), HX.out.symm, by simp; omega, by omega⟩
        case measure => simp [intOf]; omega
      have e92 : ((s[k].toNat : Int) != 92) = false := by simp; omega
      rw [if_pos h92] at HQ
      clear h34 h32 h126 h92
      by_cases hk2 : k + 1 < s.size
      rotate_left
      · have hke : ((k : Int) + 1 == (s.size : Int)) = true := by rw [beq_iff_eq]; omega
        rw [List.getElem?_eq_none (by rw [len_list]; omega)] at HQ
        simp only [] at HQ
        subst HQ
        go_wp2
        have k0 := hb_new w (.cells #[.int .i64 0, .string ⟨#[]⟩, .int .i64 0, .int .i64 0] 32)
        have r0 := hb_at k0 0 rfl
        have r1 := hb_at k0 1 rfl
        have r2 := hb_at k0 2 rfl
        have r3 := hb_at k0 3 rfl
        have hB := below_alloc w (.cells #[.int .i64 0, .string ⟨#[]⟩, .int .i64 0, .int .i64 0] 32)
        exact bodyPost_ret (v := .tuple #[tk0.v 0, .int .i64 0]) (by simp [results, Tryz.results42, go_sem, r0, r1, r2, r3, tk0, Tk.v]) rfl ⟨rfl, by first | exact hB | exact (((hB.setCell (by simp) _).setCell (by simp) _).setCell (by simp) _).setCell (by simp) _⟩
      have hke : ((k : Int) + 1 == (s.size : Int)) = false := by rw [beq_eq_false_iff_ne]; omega
      have hk2i : (k : Int) + 1 < (s.size : Int) := by omega
      have hk3i : (k : Int) + 1 + 1 ≤ (s.size : Int) := by omega
      rw [at_list s (k + 1) hk2] at HQ
      simp only [] at HQ
      have HK2 := Lib.hid (keep_one hk2)
      by_cases h92 : s[k + 1].toNat = 92
      · have f92 : ((s[k + 1].toNat : Int) == 92) = true := by rw [h92]; rfl
        have hv : escV s[k + 1].toNat = (92, true) := by unfold escV; rw [if_pos h92]
        rw [hv] at HQ
        simp only [if_true] at HQ
        have HX := Lib.hid HQ
        have HU : RowKit.Hid (s[k + 1] = UInt8.ofNat 92) := Lib.hid (u8 h92 (by decide))
        clear HQ hv h92 
        go_wp2
        go_round
        case rel => exact ⟨k + 2, said ++ [UInt8.ofNat 92], by go_num, congrArg Value.string (str_snoc said (UInt8.ofNat 92) _ (by rw [HK2.out, HU.out])), HX.out.symm, by simp; omega, by omega⟩
        case measure => simp [intOf]; omega
      have f92 : ((s[k + 1].toNat : Int) == 92) = false := by rw [beq_eq_false_iff_ne]; omega
      by_cases h34 : s[k + 1].toNat = 34
      · have f34 : ((s[k + 1].toNat : Int) == 34) = true := by rw [h34]; rfl
        have hv : escV s[k + 1].toNat = (34, true) := by unfold escV; rw [if_neg h92, if_pos h34]
        rw [hv] at HQ
        simp only [if_true] at HQ
        have HX := Lib.hid HQ
        have HU : RowKit.Hid (s[k + 1] = UInt8.ofNat 34) := Lib.hid (u8 h34 (by decide))
        clear HQ hv h34 h92
        go_wp2
        go_round
        case rel => exact ⟨k + 2, said ++ [UInt8.ofNat 34], by go_num, congrArg Value.string (str_snoc said (UInt8.ofNat 34) _ (by rw [HK2.out, HU.out])), HX.out.symm, by simp; omega, by omega⟩
        case measure => simp [intOf]; omega
      have f34 : ((s[k + 1].toNat : Int) == 34) = false := by rw [beq_eq_false_iff_ne]; omega
      by_cases h110 : s[k + 1].toNat = 110
      · have f110 : ((s[k + 1].toNat : Int) == 110) = true := by rw [h110]; rfl
        have hv : escV s[k + 1].toNat = (10, true) := by unfold escV; rw [if_neg h92, if_neg h34, if_pos h110]
        rw [hv] at HQ
        simp only [if_true] at HQ
        have HX := Lib.hid HQ
        have HU : RowKit.Hid (s[k + 1] = UInt8.ofNat 110) := Lib.hid (u8 h110 (by decide))
        clear HQ hv h110 h92 h34
        go_wp2
        go_round
        case rel => exact ⟨k + 2, said ++ [UInt8.ofNat 10], by go_num, congrArg Value.string (str_snoc said (UInt8.ofNat 10) _ rfl), HX.out.symm, by simp; omega, by omega⟩
        case measure => simp [intOf]; omega
      have f110 : ((s[k + 1].toNat : Int) == 110) = false := by rw [beq_eq_false_iff_ne]; omega
      by_cases h116 : s[k + 1].toNat = 116
      · have f116 : ((s[k + 1].toNat : Int) == 116) = true := by rw [h116]; rfl
        have hv : escV s[k + 1].toNat = (9, true) := by unfold escV; rw [if_neg h92, if_neg h34, if_neg h110, if_pos h116]
        rw [hv] at HQ
        simp only [if_true] at HQ
        have HX := Lib.hid HQ
        have HU : RowKit.Hid (s[k + 1] = UInt8.ofNat 116) := Lib.hid (u8 h116 (by decide))
        clear HQ hv h116 h92 h34 h110
        go_wp2
        go_round
        case rel => exact ⟨k + 2, said ++ [UInt8.ofNat 9], by go_num, congrArg Value.string (str_snoc said (UInt8.ofNat 9) _ rfl), HX.out.symm, by simp; omega, by omega⟩
        case measure => simp [intOf]; omega
      have f116 : ((s[k + 1].toNat : Int) == 116) = false := by rw [beq_eq_false_iff_ne]; omega
      have hv : escV s[k + 1].toNat = (0, false) := by unfold escV; rw [if_neg h92, if_neg h34, if_neg h110, if_neg h116]
      rw [hv] at HQ
      simp only [Bool.false_eq_true, if_false] at HQ
      subst HQ
      clear hv h92 h34 h110 h116
      go_wp2
      have k0 := hb_new w (.cells #[.int .i64 0, .string ⟨#[]⟩, .int .i64 0, .int .i64 0] 32)
      have r0 := hb_at k0 0 rfl
      have r1 := hb_at k0 1 rfl
      have r2 := hb_at k0 2 rfl
      have r3 := hb_at k0 3 rfl
      have hB := below_alloc w (.cells #[.int .i64 0, .string ⟨#[]⟩, .int .i64 0, .int .i64 0] 32)
      exact bodyPost_ret (v := .tuple #[tk0.v 0, .int .i64 0]) (by simp [results, Tryz.results42, go_sem, r0, r1, r2, r3, tk0, Tk.v]) rfl ⟨rfl, by first | exact hB | exact (((hB.setCell (by simp) _).setCell (by simp) _).setCell (by simp) _).setCell (by simp) _⟩
    · have hki : ¬ (k : Int) < (s.size : Int) := by omega
      have HQ : R = none := by rw [HS.out, List.getElem?_eq_none (by rw [len_list]; omega)]
      subst HQ
      go_wp2
      have k0 := hb_new w (.cells #[.int .i64 0, .string ⟨#[]⟩, .int .i64 0, .int .i64 0] 32)
      have r0 := hb_at k0 0 rfl
      have r1 := hb_at k0 1 rfl
      have r2 := hb_at k0 2 rfl
      have r3 := hb_at k0 3 rfl
      have hB := below_alloc w (.cells #[.int .i64 0, .string ⟨#[]⟩, .int .i64 0, .int .i64 0] 32)
      exact bodyPost_ret (v := .tuple #[tk0.v 0, .int .i64 0]) (by simp [results, Tryz.results42, go_sem, r0, r1, r2, r3, tk0, Tk.v]) rfl ⟨rfl, by first | exact hB | exact (((hB.setCell (by simp) _).setCell (by simp) _).setCell (by simp) _).setCell (by simp) _⟩
end Go.Proofs.YtpedmkdpbdhenaaGreatDoor
