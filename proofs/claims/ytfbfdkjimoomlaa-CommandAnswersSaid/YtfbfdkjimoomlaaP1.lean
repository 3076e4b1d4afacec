
/- Contracts: isLetter, IsPkg both. -/
import Derived.Test.YtfbfdkjimoomlaaA8
import Derived.Outline
namespace Go.Proofs.Ytfbfdkjimoomlaa
open Go.RowKit
namespace Sv
def isLet (c : UInt8) : Bool := decide (97 ≤ c.toNat ∧ c.toNat ≤ 122)
theorem isLet_yes {c : UInt8} (h : isLet c = true) : 97 ≤ c.toNat ∧ c.toNat ≤ 122 := by unfold isLet at h; exact of_decide_eq_true h
theorem isLet_no {c : UInt8} (h : isLet c = false) : c.toNat < 97 ∨ (97 ≤ c.toNat ∧ 122 < c.toNat) := by
  unfold isLet at h
  have := of_decide_eq_false h
  omega
theorem let_dig {c : UInt8} (h : isLet c = true) : isDig c = false := by
  have := isLet_yes h
  unfold isDig
  rw [decide_eq_false_iff_not]
  omega
def PkgP (l : List UInt8) : Prop := l ≠ [] ∧ l.length ≤ 20 ∧ (∀ c ∈ l, isLet c = true ∨ isDig c = true) ∧ (∀ c, l.head? = some c → isDig c = false)
noncomputable def pkgB (l : List UInt8) : Bool := by classical exact decide (PkgP l)
theorem pkg_yes {l : List UInt8} (h : PkgP l) : pkgB l = true := by unfold pkgB; simp [h]
theorem pkg_no {l : List UInt8} (h : ¬ PkgP l) : pkgB l = false := by unfold pkgB; simp [h]
theorem head_at {l : List UInt8} (h : 0 < l.length) : l.head? = some l[0] := by rw [List.head?_eq_getElem?, List.getElem?_eq_getElem h]
end Sv
theorem isLetter_any (c : UInt8) (w : World) : Calls Try.prog 55 #[.int .u8 (c.toNat : Nat)] w fun e w' => e = .returned (.bool (Sv.isLet c)) ∧ w = w' := by
  have hc : c.toNat < 256 := c.toNat_lt
  rcases Bool.eq_false_or_eq_true (Sv.isLet c) with h | h
  · obtain ⟨h1, h2⟩ := Sv.isLet_yes h
    have H := Lib.hid h
    clear h
    generalize hn : c.toNat = n at *
    have HN := Lib.hid hn
    clear hn
    have d1 : decide (97 ≤ (n : Int)) = true := by simp; omega
    have d2 : decide ((n : Int) ≤ 122) = true := by simp; omega
    go_enter Try.func55, Try.ntmps55
    go_wp2
    go_ret
    exact ⟨ret_bool H.out.symm, rfl⟩
  · rcases Sv.isLet_no h with h1 | ⟨h1, h2⟩
    · have H := Lib.hid h
      clear h
      generalize hn : c.toNat = n at *
      have HN := Lib.hid hn
      clear hn
      have d1 : decide (97 ≤ (n : Int)) = false := by simp; omega
      go_enter Try.func55, Try.ntmps55
      go_wp2
      go_ret
      exact ⟨ret_bool H.out.symm, rfl⟩
    · have H := Lib.hid h
      clear h
      generalize hn : c.toNat = n at *
      have HN := Lib.hid hn
      clear hn
      have d1 : decide (97 ≤ (n : Int)) = true := by simp; omega
      have d2 : decide ((n : Int) ≤ 122) = false := by simp; omega
      go_enter Try.func55, Try.ntmps55
      go_wp2
      go_ret
      exact ⟨ret_bool H.out.symm, rfl⟩
theorem nonempty {s : ByteArray} (h : 0 < s.size) : s.toList.isEmpty = false := by
  rw [ByteArray.toList_eq]
  cases h : s.data.toList with
  | nil => have : s.size = 0 := by rw [← ByteArray.size_data, ← Array.length_toList, h]; rfl
           omega
  | cons a l => rfl
theorem empty_of {s : ByteArray} (h : s.size = 0) : s = ⟨#[]⟩ := by
  cases s with
  | mk d => congr 1; exact Array.eq_empty_of_size_eq_zero h
theorem data_len (s : ByteArray) : s.data.toList.length = s.size := by simp
theorem data_at (s : ByteArray) (k : Nat) (h : k < s.size) (h2 : k < s.data.toList.length) : s.data.toList[k] = s[k] := by simp; rfl
theorem isPkg_none (w : World) : Calls Try.prog 33 #[.string ⟨#[]⟩] w fun e w' => e = .returned (.bool false) ∧ w = w' := by
  go_enter Try.func33, Try.ntmps33
  go_wp2
  go_ret
  exact ⟨rfl, rfl⟩
set_option maxRecDepth 100000 in
theorem isPkg_long (s : ByteArray) (h : 20 < s.size) (w : World) : Calls Try.prog 33 #[.string s] w fun e w' => e = .returned (.bool false) ∧ w = w' := by
  have e1 := nonempty (s := s) (by omega)
  have e2 : ¬ s.toList = [] := by intro h; rw [h] at e1; cases e1
  have d1 : decide (20 < (s.size : Int)) = true := by simp; omega
  go_enter Try.func33, Try.ntmps33
  go_wp2
  go_ret
  exact ⟨rfl, rfl⟩
set_option maxRecDepth 100000 in
theorem isPkg_dig (s : ByteArray) (h0 : 0 < s.size) (h : s.size ≤ 20) (hd : Sv.isDig s[0] = true) (w : World) : Calls Try.prog 33 #[.string s] w fun e w' => e = .returned (.bool false) ∧ w = w' := by
  have e1 := nonempty (s := s) (by omega)
  have e2 : ¬ s.toList = [] := by intro h; rw [h] at e1; cases e1
  have d1 : decide (20 < (s.size : Int)) = false := by simp; omega
  have H := Lib.hid hd
  clear hd
  go_enter Try.func33, Try.ntmps33
  go_wp2_with (go_at_call 54; ((with_reducible refine (isDigit_any s[0] _).mono ?_); rintro e w' ⟨rfl, rfl⟩; rw [H.out]))
  go_ret
  exact ⟨rfl, rfl⟩
set_option maxRecDepth 100000 in
set_option maxHeartbeats 1000000 in
theorem isPkg_loop (s : ByteArray) (h0 : 0 < s.size) (h : s.size ≤ 20) (hd : Sv.isDig s[0] = false) (w : World) : Calls Try.prog 33 #[.string s] w fun e w' => e = .returned (.bool (Sv.pkgB s.data.toList)) ∧ w = w' := by
  have e1 := nonempty (s := s) (by omega)
  have e2 : ¬ s.toList = [] := by intro h; rw [h] at e1; cases e1
  have d1 : decide (20 < (s.size : Int)) = false := by simp; omega
  have HL : RowKit.Hid (s.data.toList.length = s.size) := Lib.hid (data_len s)
  have HE : RowKit.Hid (∀ k (h : k < s.size) (h2 : k < s.data.toList.length), s.data.toList[k] = s[k]) := Lib.hid (data_at s)
  have H := Lib.hid hd
  clear hd
  go_enter Try.func33, Try.ntmps33
  go_wp2_with (go_at_call 54; ((with_reducible refine (isDigit_any s[0] _).mono ?_); rintro e w' ⟨rfl, rfl⟩; rw [H.out]))
  go_loop [18] (fun i => ∃ k : Nat, k ≤ s.size ∧ i = .int .i64 k ∧ (∀ c ∈ s.data.toList.take k, Sv.isLet c = true ∨ Sv.isDig c = true)) (fun i => s.size - (intOf i).toNat)
  case atStart => exact ⟨0, Nat.zero_le _, rfl, by simp⟩
  case round =>
    obtain ⟨k, hk, rfl, hd⟩ := hrel
    have HD := Lib.hid hd
    clear hd
    by_cases hlt : k < s.size
    · have HT : RowKit.Hid (s.data.toList.take (k + 1) = s.data.toList.take k ++ [s[k]]) := Lib.hid (by rw [Sv.take_snoc _ k (by rw [HL.out]; exact hlt), HE.out k hlt])
      rcases Bool.eq_false_or_eq_true (Sv.isLet s[k]) with g | g
      · have G := Lib.hid g
        clear g
        go_wp2_with (first
          | (go_at_call 55; ((with_reducible refine (isLetter_any s[k] _).mono ?_); rintro e w' ⟨rfl, rfl⟩; rw [G.out])))
        go_round
        case rel =>
          refine ⟨k + 1, by omega, by go_num, ?_⟩
          intro c hc
          rw [HT.out] at hc
          rcases List.mem_append.1 hc with hc | hc
          · exact HD.out c hc
          · rw [List.mem_singleton.1 hc]; exact .inl G.out
        case measure => simp [intOf]; omega
      · rcases Bool.eq_false_or_eq_true (Sv.isDig s[k]) with g2 | g2
        · have G := Lib.hid g
          have G2 := Lib.hid g2
          clear g g2
          go_wp2_with (first
            | (go_at_call 55; ((with_reducible refine (isLetter_any s[k] _).mono ?_); rintro e w' ⟨rfl, rfl⟩; rw [G.out]))
            | (go_at_call 54; ((with_reducible refine (isDigit_any s[k] _).mono ?_); rintro e w' ⟨rfl, rfl⟩; rw [G2.out])))
          go_round
          case rel =>
            refine ⟨k + 1, by omega, by go_num, ?_⟩
            intro c hc
            rw [HT.out] at hc
            rcases List.mem_append.1 hc with hc | hc
            · exact HD.out c hc
            · rw [List.mem_singleton.1 hc]; exact .inr G2.out
          case measure => simp [intOf]; omega
        · have G := Lib.hid g
          have G2 := Lib.hid g2
          clear g g2
          go_wp2_with (first
            | (go_at_call 55; ((with_reducible refine (isLetter_any s[k] _).mono ?_); rintro e w' ⟨rfl, rfl⟩; rw [G.out]))
            | (go_at_call 54; ((with_reducible refine (isDigit_any s[k] _).mono ?_); rintro e w' ⟨rfl, rfl⟩; rw [G2.out])))
          go_ret
          refine ⟨ret_bool (Sv.pkg_no fun q => ?_).symm, rfl⟩
          have hl : k < s.data.toList.length := by rw [HL.out]; exact hlt
          have := q.2.2.1 s.data.toList[k] (List.getElem_mem hl)
          rw [HE.out k hlt, G.out, G2.out] at this
          rcases this with h | h <;> cases h
    · go_wp2
      go_ret
      obtain rfl : k = s.size := by omega
      refine ⟨ret_bool (Sv.pkg_yes ⟨fun e => ?_, by rw [HL.out]; exact h, ?_, fun c hc => ?_⟩).symm, rfl⟩
      · have := HL.out; rw [e] at this; simp at this; omega
      · have := HD.out; rwa [← HL.out, List.take_length] at this
      · rw [Sv.head_at (by rw [HL.out]; exact h0), HE.out 0 h0] at hc
        rw [← Option.some.inj hc]; exact H.out
theorem isPkg_any (s : ByteArray) (w : World) : Calls Try.prog 33 #[.string s] w fun e w' => e = .returned (.bool (Sv.pkgB s.data.toList)) ∧ w = w' := by
  by_cases h0 : 0 < s.size
  · by_cases h : s.size ≤ 20
    · rcases Bool.eq_false_or_eq_true (Sv.isDig s[0]) with hd | hd
      · refine (isPkg_dig s h0 h hd w).mono fun e w' ⟨he, hw⟩ => ⟨he.trans (ret_bool (Sv.pkg_no fun q => ?_).symm), hw⟩
        have := q.2.2.2 s[0] (by rw [Sv.head_at (by rw [data_len]; exact h0), data_at s 0 h0])
        rw [hd] at this; cases this
      · exact isPkg_loop s h0 h hd w
    · exact (isPkg_long s (by omega) w).mono fun e w' ⟨he, hw⟩ => ⟨he.trans (ret_bool (Sv.pkg_no fun q => by have := q.2.1; rw [data_len] at this; exact h this).symm), hw⟩
  · obtain rfl := empty_of (s := s) (by omega)
    exact (isPkg_none w).mono fun e w' ⟨he, hw⟩ => ⟨he.trans (ret_bool (Sv.pkg_no fun q => q.1 rfl).symm), hw⟩
end Go.Proofs.Ytfbfdkjimoomlaa
