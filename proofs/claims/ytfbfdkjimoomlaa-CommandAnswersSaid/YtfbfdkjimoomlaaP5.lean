
/- Contracts: the document's IsPkg. -/
import Derived.Test.YtfbfdkjimoomlaaP1
import Derived.Outline
namespace Go.Proofs.Ytfbfdkjimoomlaa
open Go.RowKit
set_option maxRecDepth 100000 in
set_option maxHeartbeats 2000000 in
theorem refIsPkg_any (s : ByteArray) (hm : s.size ≤ 4194304) (w : World) : Calls Try.prog 56 #[.string s] w fun e w' => e = .returned (.bool (Sv.pkgB s.data.toList)) ∧ w = w' := by
  have HL : RowKit.Hid (s.data.toList.length = s.size) := Lib.hid (data_len s)
  have HE : RowKit.Hid (∀ k (h : k < s.size) (h2 : k < s.data.toList.length), s.data.toList[k] = s[k]) := Lib.hid (data_at s)
  go_enter Try.func56, Try.ntmps56
  go_wp2
  go_loop [3] (fun i => ∃ k : Nat, k ≤ s.size ∧ i = .int .i64 k ∧ (∀ c ∈ s.data.toList.take k, Sv.isLet c = true ∨ Sv.isDig c = true) ∧ (∀ c, 0 < k → s.data.toList.head? = some c → Sv.isDig c = false)) (fun i => s.size - (intOf i).toNat)
  case atStart => exact ⟨0, Nat.zero_le _, rfl, by simp, fun c h => absurd h (Nat.lt_irrefl 0)⟩
  case round =>
    obtain ⟨k, hk, rfl, hd, hh⟩ := hrel
    have HD := Lib.hid hd
    have HH := Lib.hid hh
    clear hd hh
    by_cases hlt : k < s.size
    · have HT : RowKit.Hid (s.data.toList.take (k + 1) = s.data.toList.take k ++ [s[k]]) := Lib.hid (by rw [Sv.take_snoc _ k (by rw [HL.out]; exact hlt), HE.out k hlt])
      have HBAD : RowKit.Hid (Sv.isLet s[k] = false → Sv.isDig s[k] = false → Sv.pkgB s.data.toList = false) := Lib.hid (fun g g2 => Sv.pkg_no fun q => by
        have hl : k < s.data.toList.length := by rw [HL.out]; exact hlt
        have := q.2.2.1 s.data.toList[k] (List.getElem_mem hl)
        rw [HE.out k hlt, g, g2] at this
        rcases this with h | h <;> cases h)
      have hcl : s[k].toNat < 256 := s[k].toNat_lt
      rcases Bool.eq_false_or_eq_true (Sv.isLet s[k]) with g | g
      · obtain ⟨g1, g2⟩ := Sv.isLet_yes g
        have G := Lib.hid g
        clear g
        have c1 : decide (97 ≤ (s[k].toNat : Int)) = true := by simp; omega
        have c2 : decide ((s[k].toNat : Int) ≤ 122) = true := by simp; omega
        go_wp2
        go_round
        case rel =>
          refine ⟨k + 1, by omega, by go_num, ?_, ?_⟩
          · intro c hc
            rw [HT.out] at hc
            rcases List.mem_append.1 hc with hc | hc
            · exact HD.out c hc
            · rw [List.mem_singleton.1 hc]; exact .inl G.out
          · intro c _ hc
            by_cases h0 : 0 < k
            · exact HH.out c h0 hc
            · obtain rfl : k = 0 := by omega
              rw [Sv.head_at (by rw [HL.out]; exact hlt), HE.out 0 hlt] at hc
              rw [← Option.some.inj hc]; exact Sv.let_dig G.out
        case measure => simp [intOf]; omega
      · have HG := Lib.hid g
        have hlet : (decide (97 ≤ (s[k].toNat : Int)) = true ∧ decide ((s[k].toNat : Int) ≤ 122) = false) ∨ decide (97 ≤ (s[k].toNat : Int)) = false := by
          rcases Sv.isLet_no g with g1 | ⟨g1, g2⟩
          · right; simp; omega
          · left; exact ⟨by simp; omega, by simp; omega⟩
        clear g
        by_cases h0 : 0 < k
        · have k0 : decide (0 < (k : Int)) = true := by simp; omega
          rcases Bool.eq_false_or_eq_true (Sv.isDig s[k]) with g | g
          · obtain ⟨g1, g2⟩ := Sv.isDig_yes g
            have G := Lib.hid g
            clear g
            have c1 : decide (48 ≤ (s[k].toNat : Int)) = true := by simp; omega
            have c2 : decide ((s[k].toNat : Int) ≤ 57) = true := by simp; omega
            have c3 : decide (97 ≤ (s[k].toNat : Int)) = false := by simp; omega
            clear hlet
            go_wp2
            go_round
            case rel =>
              refine ⟨k + 1, by omega, by go_num, ?_, fun c _ hc => HH.out c h0 hc⟩
              intro c hc
              rw [HT.out] at hc
              rcases List.mem_append.1 hc with hc | hc
              · exact HD.out c hc
              · rw [List.mem_singleton.1 hc]; exact .inr G.out
            case measure => simp [intOf]; omega
          · have G := Lib.hid g
            have hdig : (decide (48 ≤ (s[k].toNat : Int)) = true ∧ decide ((s[k].toNat : Int) ≤ 57) = false) ∨ decide (48 ≤ (s[k].toNat : Int)) = false := by
              rcases Sv.isDig_no g with g1 | ⟨g1, g2⟩
              · right; simp; omega
              · left; exact ⟨by simp; omega, by simp; omega⟩
            clear g
            rcases hlet with ⟨c1, c2⟩ | c1 <;> rcases hdig with ⟨c3, c4⟩ | c3
            all_goals
              go_wp2
              go_ret
              exact ⟨ret_bool (HBAD.out HG.out G.out).symm, rfl⟩
        · have k0 : decide (0 < (k : Int)) = false := by simp; omega
          have HK0 := Lib.hid h0
          clear h0
          have HNO : RowKit.Hid (Sv.pkgB s.data.toList = false) := Lib.hid (by
            rcases Bool.eq_false_or_eq_true (Sv.isDig s[k]) with g | g
            · refine Sv.pkg_no fun q => ?_
              have hk0 : k = 0 := by have := HK0.out; omega
              subst hk0
              have := q.2.2.2 s[0] (by rw [Sv.head_at (by rw [HL.out]; exact hlt), HE.out 0 hlt])
              rw [g] at this; cases this
            · exact HBAD.out HG.out g)
          rcases hlet with ⟨c1, c2⟩ | c1
          all_goals
            go_wp2
            go_ret
            exact ⟨ret_bool HNO.out.symm, rfl⟩
    · obtain rfl : k = s.size := by omega
      by_cases h1 : 1 ≤ s.size
      · have d1 : decide (1 ≤ (s.size : Int)) = true := by simp; omega
        by_cases h2 : s.size ≤ 20
        · have d2 : decide ((s.size : Int) ≤ 20) = true := by simp; omega
          have H1 := Lib.hid h1
          have H2 := Lib.hid h2
          clear h1 h2
          go_wp2
          go_ret
          refine ⟨ret_bool (Sv.pkg_yes ⟨fun e => ?_, by rw [HL.out]; exact H2.out, ?_, fun c hc => HH.out c (by have := H1.out; omega) hc⟩).symm, rfl⟩
          · have := HL.out; rw [e] at this; simp at this; have := H1.out; omega
          · have := HD.out; rwa [← HL.out, List.take_length] at this
        · have d2 : decide ((s.size : Int) ≤ 20) = false := by simp; omega
          have H2 := Lib.hid h2
          clear h1 h2
          go_wp2
          go_ret
          exact ⟨ret_bool (Sv.pkg_no fun q => by have := q.2.1; rw [HL.out] at this; exact H2.out this).symm, rfl⟩
      · have d1 : decide (1 ≤ (s.size : Int)) = false := by simp; omega
        have H1 := Lib.hid h1
        clear h1
        go_wp2
        go_ret
        exact ⟨ret_bool (Sv.pkg_no fun q => q.1 (List.length_eq_zero_iff.1 (by rw [HL.out]; have := H1.out; omega))).symm, rfl⟩
end Go.Proofs.Ytfbfdkjimoomlaa
