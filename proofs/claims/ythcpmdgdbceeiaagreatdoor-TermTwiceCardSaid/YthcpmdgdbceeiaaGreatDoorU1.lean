/- Is a text one of some: both functions. -/
import Derived.Test.YthcpmdgdbceeiaaGreatDoorTf
import Derived.Outline
namespace Go.Proofs.YthcpmdgdbceeiaaGreatDoor
open Go.RowKit
theorem inN_yes {s : ByteArray} {l : List ByteArray} {k : Nat} (h : l[k]? = some s) : inN s l = true := by
  unfold inN
  exact List.any_eq_true.2 ⟨s, List.mem_of_getElem? h, by simp⟩
theorem inN_no {s : ByteArray} {l : List ByteArray} (h : ∀ t ∈ l, t ≠ s) : inN s l = false := by
  unfold inN
  exact List.any_eq_false.2 fun t ht => by simpa using h t ht
set_option maxRecDepth 100000 in
set_option maxHeartbeats 1000000 in
theorem in51_any (s : ByteArray) (v : Value) (l : List ByteArray) (w : World) (h : SRow w v l) (hl : l.length ≤ 1000000) : Calls Tryz.prog 51 #[.string s, v] w fun e w' => e = .returned (.bool (inN s l)) ∧ w = w' := by
  obtain ⟨q1, c1, rfl, h1⟩ := h
  have H1 := Lib.hid h1
  clear h1
  go_enter Tryz.func51, Tryz.ntmps51
  go_wp2
  go_loop [5] (fun i => ∃ k : Nat, k ≤ l.length ∧ i = .int .i64 k ∧ (∀ t ∈ l.take k, t ≠ s)) (fun i => l.length - (intOf i).toNat)
  case atStart => exact ⟨0, Nat.zero_le _, rfl, by simp⟩
  case round =>
    obtain ⟨k, hk, rfl, hn⟩ := hrel
    have HN := Lib.hid hn
    clear hn
    by_cases hlt : k < l.length
    · have HK : RowKit.Hid (l[k]? = some l[k]) := Lib.hid (List.getElem?_eq_getElem hlt)
      have HT : RowKit.Hid (l.take (k + 1) = l.take k ++ [l[k]]) := Lib.hid (List.take_succ_eq_append_getElem hlt)
      obtain ⟨g1, e1, ha1⟩ := H1.out k l[k] HK.out
      subst e1
      generalize l[k] = x at *
      have hki : (k : Int) < (l.length : Int) := by omega
      by_cases hx : x = s
      · have he : (x.toList == s.toList) = true := by rw [hx]; simp
        have HX := Lib.hid hx
        clear hx
        go_wp2
        go_ret
        exact ⟨ret_bool (inN_yes (by rw [HK.out, HX.out])).symm, rfl⟩
      · have he : (x.toList == s.toList) = false := by
          rw [beq_eq_false_iff_ne]
          intro h
          rw [ByteArray.toList_eq, ByteArray.toList_eq] at h
          exact hx (name_eq h)
        have HX := Lib.hid hx
        clear hx
        go_wp2
        go_round
        case rel =>
          refine ⟨k + 1, by omega, by go_num, fun t ht => ?_⟩
          rw [HT.out] at ht
          rcases List.mem_append.1 ht with ht | ht
          · exact HN.out t ht
          · rw [List.mem_singleton.1 ht]; exact HX.out
        case measure => simp [intOf]; omega
    · obtain rfl : k = l.length := by omega
      go_wp2
      go_ret
      exact ⟨ret_bool (inN_no (by have := HN.out; rwa [List.take_length] at this)).symm, rfl⟩
theorem in_any (s : ByteArray) (v : Value) (l : List ByteArray) (w : World) (h : SRow w v l) (hl : l.length ≤ 1000000) : Calls Tryz.prog 25 #[.string s, v] w fun e w' => e = .returned (.bool (inN s l)) ∧ w = w' := by
  have H := Lib.hid (in51_any s v l w h hl)
  clear h
  go_enter Tryz.func25, Tryz.ntmps25
  go_wp2_with (go_at_call 51; refine H.out.mono ?_; rintro e w' ⟨rfl, rfl⟩)
  go_ret
  exact ⟨rfl, rfl⟩
end Go.Proofs.YthcpmdgdbceeiaaGreatDoor
