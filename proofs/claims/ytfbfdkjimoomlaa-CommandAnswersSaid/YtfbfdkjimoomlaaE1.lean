
/- The document's own GetUvarint. -/
import Derived.Test.YtfbfdkjimoomlaaC9
import Derived.Deep.RegionWith
namespace Go.Proofs.Ytfbfdkjimoomlaa
open Go.RowKit

def Lead (l : List UInt8) (n : Value) : Prop := ∃ k : Nat, k ≤ min l.length 10 ∧ n = .int .i64 k ∧ ∀ j (h : j < k) (h2 : j < l.length), 128 ≤ (l[j]).toNat
/-- The value of the bytes from place m to k. -/
def Back (l : List UInt8) (k : Nat) (x i : Value) : Prop := ∃ m : Nat, m ≤ k + 1 ∧ i = .int .i64 ((m : Int) - 1) ∧ x = .int .u64 (Cx.val ((l.take (k + 1)).drop m) % 18446744073709551616 : Nat)

theorem ext_str (s : ByteArray) (n : Nat) (h : n ≤ s.size) : s.extract 0 n = str (s.data.toList.take n) := by
  apply ByteArray.ext
  apply Array.ext'
  simp [str]
theorem str_inj (l m : List UInt8) : (str l = str m) ↔ l = m := by
  constructor
  · intro h
    have := congrArg (fun s : ByteArray => s.data.toList) h
    simpa [str] using this
  · rintro rfl; rfl
theorem below_undrew {w w' : World} (h : Below w.drew.heap.size w.drew w') : Below w.heap.size w w' := ⟨h.os, h.tape, h.output, h.size, h.block⟩
theorem back_step (c v : Nat) : IntKind.u64.wrap (IntKind.u64.wrap (128 * ((v : Int) % 18446744073709551616)) + (c : Int) % 128) = (((c % 128 + 128 * v) % 18446744073709551616 : Nat) : Int) := by
  simp only [IntKind.wrap_u64]
  omega
theorem drop_val (l : List UInt8) (k m : Nat) (hk : k < l.length) (hm : m < k + 1) : Cx.val ((l.take (k + 1)).drop m) = (l[m]'(by omega)).toNat % 128 + 128 * Cx.val ((l.take (k + 1)).drop (m + 1)) := by
  rw [List.drop_eq_getElem_cons (by rw [List.length_take]; omega), Cx.val, List.getElem_take]

set_option maxRecDepth 100000 in
set_option maxHeartbeats 2000000 in
theorem refGet_any (s : ByteArray) (hs : s.size ≤ maxLen) (w : World) : Calls Try.prog 61 #[.string s] w fun e w' => e = .returned (.tuple #[.int .u64 ((Cx.getUv s.data.toList).1 : Nat), .int .i64 ((Cx.getUv s.data.toList).2 : Nat)]) ∧ Below w.heap.size w w' := by
  unfold maxLen at hs
  have hsz : s.data.toList.length = s.size := by simp
  have HSZ := Lib.hid hsz
  clear hsz
  go_enter Try.func61, Try.ntmps61
  go_wp2
  go_loop [4] (fun n => Lead s.data.toList n) (fun n => 10 - (intOf n).toNat)
  case atStart => exact ⟨0, Nat.zero_le _, rfl, fun j h => by omega⟩
  case round =>
    obtain ⟨k, hk, rfl, hh⟩ := hrel
    have HH := Lib.hid hh
    rw [HSZ.out] at hk
    have hk2 : k ≤ s.size := by omega
    have hk3 : k ≤ 10 := by omega
    clear hh hk
    by_cases hl1 : k < s.size
    · have hc256 := s[k].toNat_lt
      have hkl : k < s.data.toList.length := by rw [HSZ.out]; exact hl1
      have hs1 : s.data.toList[k] = s[k] := rfl
      have HS1 := Lib.hid hs1
      have hdl : decide ((k : Int) < s.size) = true := by simp; omega
      clear hs1
      by_cases hl2 : k < 10
      · have hd10 : decide ((k : Int) < 10) = true := by simp; omega
        by_cases hc : 127 < s[k].toNat
        · have HX : RowKit.Hid (Lead s.data.toList (.int .i64 ((k : Int) + 1))) := by
            refine ⟨k + 1, by rw [HSZ.out]; omega, by go_num, fun j h h2 => ?_⟩
            rcases Nat.lt_or_ge j k with h3 | h3
            · exact HH.out j h3 h2
            · obtain rfl : j = k := by omega
              exact hc
          have hd : decide (127 < (s[k].toNat : Int)) = true := by simp; omega
          go_wp2
          go_round
          case rel => exact HX.out
          case measure => simp [intOf]; omega
        · have hd : decide (127 < (s[k].toNat : Int)) = false := by simp; omega
          have he1 : ((k : Int) == s.size) = false := by simp; omega
          have he2 : ((k : Int) == 10) = false := by simp; omega
          go_wp2
          go_loop [5, 6] (fun x i => Back s.data.toList k x i) (fun _ i => (intOf i + 1).toNat)
          case atStart =>
            refine ⟨k + 1, Nat.le_refl _, by simp, ?_⟩
            rw [List.drop_of_length_le (by rw [List.length_take]; omega)]
            rfl
          case round =>
            obtain ⟨m, hm, rfl, rfl⟩ := hrel
            by_cases hm0 : 0 < m
            · obtain ⟨m, rfl⟩ : ∃ q, m = q + 1 := ⟨m - 1, by omega⟩
              have HD := Lib.hid (drop_val s.data.toList k m hkl (by omega))
              have HB := Lib.hid (back_step s[m].toNat (Cx.val ((s.data.toList.take (k + 1)).drop (m + 1))))
              go_wp2
              go_round
              case rel => exact ⟨m, by omega, by go_num, by rw [HB.out, HD.out]; rfl⟩
              case measure => simp [intOf]
            · obtain rfl : m = 0 := by omega
              have HX0 : RowKit.Hid (Cx.val ((s.data.toList.take (k + 1)).drop 0) % 18446744073709551616 = Cx.val (s.data.toList.take (k + 1)) % 18446744073709551616) := Lib.hid rfl
              have hX64 : Cx.val ((s.data.toList.take (k + 1)).drop 0) % 18446744073709551616 < 18446744073709551616 := Nat.mod_lt _ (by decide)
              generalize Cx.val ((s.data.toList.take (k + 1)).drop 0) % 18446744073709551616 = X at *
              go_wp2
              have ew : IntKind.i64.wrap ((k : Int) + 1) = (k : Int) + 1 := IntWalk.i64_in _ (by omega)
              have ew0 : 0 ≤ (k : Int) + 1 := by omega
              have ew1 : (k : Int) + 1 ≤ s.size := by omega
              have ew2 : ((k : Int) + 1).toNat = k + 1 := by omega
              go_region_with (go_at_call 52; refine (refUvarint_any X hX64 _).mono ?_; rintro e w2 ⟨rfl, hb2⟩)
              clear ew ew0 ew1 ew2
              have HL : RowKit.Hid (Cx.lead s.data.toList = k) := Lib.hid (Cx.lead_eq _ k (by omega) (fun j h => HH.out j h (by omega)) (fun _ => by rw [HS1.out]; omega))
              have HI := Lib.hid (Cx.test_iff s.data.toList (by rw [HL.out]; exact hkl) (by rw [HL.out]; exact hl2))
              have HJ : RowKit.Hid (((str (Cx.uv X)).toList == (s.extract 0 (k + 1)).toList) = Cx.okLast s[k].toNat k) := by
                have h1 := HI.out
                rw [HL.out, ← HX0.out, List.getD_eq_getElem?_getD, List.getElem?_eq_getElem hkl] at h1
                simp only [Option.getD_some, HS1.out] at h1
                apply Lib.hid
                rw [ext_str s (k + 1) (by omega), ByteArray.toList_eq, ByteArray.toList_eq, str_list, str_list, Bool.eq_iff_iff, beq_iff_eq, h1]
              by_cases hok : Cx.okLast s[k].toNat k = true
              · have HG := Lib.hid (getUv_yes s.data.toList k hkl hl2 HH.out (by rw [HS1.out]; omega) (by rw [HS1.out]; exact hok))
                have hbb := HJ.out
                rw [hok] at hbb
                rw [hbb]
                clear hbb
                have HXv : RowKit.Hid (X = (Cx.getUv s.data.toList).1) := by
                  have b := Cx.getUv_back s.data.toList (by rw [HG.out]; simp)
                  rw [HX0.out, HG.out] at *
                  exact Lib.hid (Nat.mod_eq_of_lt b.2.2.1)
                have HN : RowKit.Hid (((k : Int) + 1) = ((Cx.getUv s.data.toList).2 : Nat)) := by rw [HG.out]; apply Lib.hid; simp
                clear hok
                go_wp2
                go_ret2
                refine ⟨?_, below_undrew hb2⟩
                show Ending.returned (.tuple #[.int .u64 _, .int .i64 _]) = _
                rw [← HXv.out, HN.out]
              · have hok' : Cx.okLast s[k].toNat k = false := by simpa using hok
                have HG := Lib.hid (getUv_no s.data.toList k hkl HH.out (by rw [HS1.out]; omega) (by rw [HS1.out]; exact hok'))
                have hbb := HJ.out
                rw [hok'] at hbb
                rw [hbb]
                clear hbb
                clear hok hok'
                go_wp2
                go_ret2
                refine ⟨?_, below_undrew hb2⟩
                rw [HG.out]
                rfl
      · have hd10 : decide ((k : Int) < 10) = false := by simp; omega
        obtain rfl : k = 10 := by omega
        have HG := Lib.hid (getUv_end s.data.toList 10 (by rw [HSZ.out]; exact hk2) (.inr rfl) HH.out)
        have he1 : ((10 : Int) == s.size) = false := by simp; omega
        go_wp2
        go_ret2
        refine ⟨?_, Below.refl _ _⟩
        rw [HG.out]
        rfl
    · have hdl : decide ((k : Int) < s.size) = false := by simp; omega
      obtain rfl : k = s.size := by omega
      have HG := Lib.hid (getUv_end s.data.toList s.size (by rw [HSZ.out]; exact hk2) (.inl (by rw [HSZ.out])) HH.out)
      go_wp2
      go_ret2
      refine ⟨?_, Below.refl _ _⟩
      rw [HG.out]
      rfl
end Go.Proofs.Ytfbfdkjimoomlaa
