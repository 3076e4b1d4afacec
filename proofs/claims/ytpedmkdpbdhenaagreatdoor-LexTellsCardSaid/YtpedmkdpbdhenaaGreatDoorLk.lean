
/- Letters behind an escape. -/
import Derived.Test.YtpedmkdpbdhenaaGreatDoorLj
namespace Go.Proofs.YtpedmkdpbdhenaaGreatDoor
open Go.RowKit
set_option linter.unusedSimpArgs false
set_option linter.unusedVariables false
/-- The table of escapes, as it is laid. -/
def EscW (w : World) : Prop := ∃ t, w.heap[0]? = some (.cells #[.int .u8 92, .int .u8 92, .int .u8 34, .int .u8 34, .int .u8 110, .int .u8 10, .int .u8 116, .int .u8 9] t (0, 0))
theorem EscW.pos {w : World} (h : EscW w) : 0 < w.heap.size := by
  obtain ⟨t, h⟩ := h
  exact (Array.getElem?_eq_some_iff.1 h).1
theorem EscW.below {B : Nat} {w w' : World} (h : EscW w) (hb : Below B w w') (hB : 0 < B) : EscW w' := by
  obtain ⟨t, h⟩ := h
  exact ⟨t, hb_below h hb hB⟩
theorem EscW.alloc {w : World} (h : EscW w) (o : Obj) : EscW (w.alloc o) := by
  obtain ⟨t, h⟩ := h
  exact ⟨t, hb_alloc h o⟩
/-- What a letter says, and whether it says something. -/
def escV (n : Nat) : Nat × Bool := if n = 92 then (92, true) else if n = 34 then (34, true) else if n = 110 then (10, true) else if n = 116 then (9, true) else (0, false)
theorem esc_i0 (W : World) : (Instr.index 65 (.agg #[.int .u8 92, .int .u8 92, .int .u8 34, .int .u8 34, .int .u8 110, .int .u8 10, .int .u8 116, .int .u8 9]) (.int .i64 0)).run Tryz.prog W = .ok (.agg #[.int .u8 92, .int .u8 92]) W := by
  have u59 := run_underlying Tryz.underlying65
  simp [Instr.index, u59, go_sem]
theorem esc_i1 (W : World) : (Instr.index 65 (.agg #[.int .u8 92, .int .u8 92, .int .u8 34, .int .u8 34, .int .u8 110, .int .u8 10, .int .u8 116, .int .u8 9]) (.int .i64 1)).run Tryz.prog W = .ok (.agg #[.int .u8 34, .int .u8 34]) W := by
  have u59 := run_underlying Tryz.underlying65
  simp [Instr.index, u59, go_sem]
theorem esc_i2 (W : World) : (Instr.index 65 (.agg #[.int .u8 92, .int .u8 92, .int .u8 34, .int .u8 34, .int .u8 110, .int .u8 10, .int .u8 116, .int .u8 9]) (.int .i64 2)).run Tryz.prog W = .ok (.agg #[.int .u8 110, .int .u8 10]) W := by
  have u59 := run_underlying Tryz.underlying65
  simp [Instr.index, u59, go_sem]
theorem esc_i3 (W : World) : (Instr.index 65 (.agg #[.int .u8 92, .int .u8 92, .int .u8 34, .int .u8 34, .int .u8 110, .int .u8 10, .int .u8 116, .int .u8 9]) (.int .i64 3)).run Tryz.prog W = .ok (.agg #[.int .u8 116, .int .u8 9]) W := by
  have u59 := run_underlying Tryz.underlying65
  simp [Instr.index, u59, go_sem]
set_option maxHeartbeats 4000000 in
set_option maxRecDepth 100000 in
theorem unescape_none (w : World) (h : EscW w) :
    Calls Tryz.prog 56 #[.string ⟨#[]⟩] w fun e w' => e = .returned (.tuple #[.int .u8 0, .bool false]) ∧ Below w.heap.size w w' := by
  obtain ⟨tt, h⟩ := h
  have c0 := hb_at h 0 rfl
  have c1 := hb_at h 1 rfl
  have c2 := hb_at h 2 rfl
  have c3 := hb_at h 3 rfl
  have c4 := hb_at h 4 rfl
  have c5 := hb_at h 5 rfl
  have c6 := hb_at h 6 rfl
  have c7 := hb_at h 7 rfl
  have i0 := fun W => esc_i0 W
  have i1 := fun W => esc_i1 W
  have i2 := fun W => esc_i2 W
  have i3 := fun W => esc_i3 W
  clear h
  go_enter Tryz.func56, Tryz.ntmps56
  go_wp2
  clear c0 c1 c2 c3 c4 c5 c6 c7
  go_loopw [7] (fun i wr => ∃ k : Nat, i = .int .i64 k ∧ k ≤ 4 ∧ Below w.heap.size w wr) (fun i _ => 4 - (intOf i).toNat)
  case atStart => exact ⟨0, rfl, by omega, Below.refl _ _⟩
  case round =>
    obtain ⟨k, rfl, hk, hb⟩ := hrel
    have hbs := hb.size
    have HB := Lib.hid hb
    clear hb
    have hc : k = 0 ∨ k = 1 ∨ k = 2 ∨ k = 3 ∨ k = 4 := by omega
    rcases hc with rfl | rfl | rfl | rfl | rfl
    · go_wp2
      go_region
      go_wp2
      exact ⟨⟨1, rfl, by omega, (HB.out.alloc hbs _).drew⟩, by simp [intOf]⟩
    · go_wp2
      go_region
      go_wp2
      exact ⟨⟨2, rfl, by omega, (HB.out.alloc hbs _).drew⟩, by simp [intOf]⟩
    · go_wp2
      go_region
      go_wp2
      exact ⟨⟨3, rfl, by omega, (HB.out.alloc hbs _).drew⟩, by simp [intOf]⟩
    · go_wp2
      go_region
      go_wp2
      exact ⟨⟨4, rfl, by omega, (HB.out.alloc hbs _).drew⟩, by simp [intOf]⟩
    · go_wp2
      exact bodyPost_ret (v := .tuple #[.int .u8 0, .bool false]) (by simp [results, Tryz.results56, go_sem]) rfl ⟨rfl, HB.out⟩
theorem ne_nil {s : ByteArray} (h : 0 < s.size) : (s.toList == []) = false := by
  rw [beq_eq_false_iff_ne, ByteArray.toList_eq]
  intro e
  have := congrArg List.length e
  rw [len_list, List.length_nil] at this
  omega
set_option maxHeartbeats 8000000 in
set_option maxRecDepth 100000 in
theorem unescape_some (s : ByteArray) (hs : 0 < s.size) (w : World) (h : EscW w) :
    Calls Tryz.prog 56 #[.string s] w fun e w' => e = .returned (.tuple #[.int .u8 ((escV s[0].toNat).1 : Nat), .bool (escV s[0].toNat).2]) ∧ Below w.heap.size w w' := by
  obtain ⟨tt, h⟩ := h
  have c0 := hb_at h 0 rfl
  have c1 := hb_at h 1 rfl
  have c2 := hb_at h 2 rfl
  have c3 := hb_at h 3 rfl
  have c4 := hb_at h 4 rfl
  have c5 := hb_at h 5 rfl
  have c6 := hb_at h 6 rfl
  have c7 := hb_at h 7 rfl
  have i0 := fun W => esc_i0 W
  have i1 := fun W => esc_i1 W
  have i2 := fun W => esc_i2 W
  have i3 := fun W => esc_i3 W
  clear h
  have hne := ne_nil hs
  have hsi : (0 : Int) < (s.size : Int) := by omega
  go_enter Tryz.func56, Tryz.ntmps56
  go_wp2
  clear c0 c1 c2 c3 c4 c5 c6 c7
  go_loopw [7] (fun i wr => ∃ k : Nat, i = .int .i64 k ∧ k ≤ 4 ∧ Below w.heap.size w wr ∧ (1 ≤ k → s[0].toNat ≠ 92) ∧ (2 ≤ k → s[0].toNat ≠ 34) ∧ (3 ≤ k → s[0].toNat ≠ 110) ∧ (4 ≤ k → s[0].toNat ≠ 116)) (fun i _ => 4 - (intOf i).toNat)
  case atStart => exact ⟨0, rfl, by omega, Below.refl _ _, by omega, by omega, by omega, by omega⟩
  case round =>
    obtain ⟨k, rfl, hk, hb, n0, n1, n2, n3⟩ := hrel
    have hbs := hb.size
    have HB := Lib.hid hb
    have H0 := Lib.hid n0
    have H1 := Lib.hid n1
    have H2 := Lib.hid n2
    have H3 := Lib.hid n3
    clear hb n0 n1 n2 n3
    have hc : k = 0 ∨ k = 1 ∨ k = 2 ∨ k = 3 ∨ k = 4 := by omega
    rcases hc with rfl | rfl | rfl | rfl | rfl
    · by_cases hx : s[0].toNat = 92
      · have hd : ((s[0].toNat : Int) == 92) = true := by rw [hx]; rfl
        have he : escV s[0].toNat = (92, true) := by unfold escV;  rw [if_pos hx]
        have HX := Lib.hid he
        clear he hx
        go_wp2
        go_region
        go_wp2
        exact bodyPost_ret (v := .tuple #[.int .u8 92, .bool true]) (by simp [results, Tryz.results56, go_sem]) rfl ⟨by rw [HX.out]; rfl, (HB.out.alloc hbs _).drew⟩
      · have hd : ((s[0].toNat : Int) == 92) = false := by rw [beq_eq_false_iff_ne]; omega
        have HX := Lib.hid hx
        clear hx
        go_wp2
        go_region
        go_wp2
        exact ⟨⟨1, rfl, by omega, (HB.out.alloc hbs _).drew, fun _ => HX.out, by omega, by omega, by omega⟩, by simp [intOf]⟩
    · by_cases hx : s[0].toNat = 34
      · have hd : ((s[0].toNat : Int) == 34) = true := by rw [hx]; rfl
        have he : escV s[0].toNat = (34, true) := by unfold escV; rw [if_neg (H0.out (by omega))]; rw [if_pos hx]
        have HX := Lib.hid he
        clear he hx
        go_wp2
        go_region
        go_wp2
        exact bodyPost_ret (v := .tuple #[.int .u8 34, .bool true]) (by simp [results, Tryz.results56, go_sem]) rfl ⟨by rw [HX.out]; rfl, (HB.out.alloc hbs _).drew⟩
      · have hd : ((s[0].toNat : Int) == 34) = false := by rw [beq_eq_false_iff_ne]; omega
        have HX := Lib.hid hx
        clear hx
        go_wp2
        go_region
        go_wp2
        exact ⟨⟨2, rfl, by omega, (HB.out.alloc hbs _).drew, fun _ => H0.out (by omega), fun _ => HX.out, by omega, by omega⟩, by simp [intOf]⟩
    · by_cases hx : s[0].toNat = 110
      · have hd : ((s[0].toNat : Int) == 110) = true := by rw [hx]; rfl
        have he : escV s[0].toNat = (10, true) := by unfold escV; rw [if_neg (H0.out (by omega))]; rw [if_neg (H1.out (by omega))]; rw [if_pos hx]
        have HX := Lib.hid he
        clear he hx
        go_wp2
        go_region
        go_wp2
        exact bodyPost_ret (v := .tuple #[.int .u8 10, .bool true]) (by simp [results, Tryz.results56, go_sem]) rfl ⟨by rw [HX.out]; rfl, (HB.out.alloc hbs _).drew⟩
      · have hd : ((s[0].toNat : Int) == 110) = false := by rw [beq_eq_false_iff_ne]; omega
        have HX := Lib.hid hx
        clear hx
        go_wp2
        go_region
        go_wp2
        exact ⟨⟨3, rfl, by omega, (HB.out.alloc hbs _).drew, fun _ => H0.out (by omega), fun _ => H1.out (by omega), fun _ => HX.out, by omega⟩, by simp [intOf]⟩
    · by_cases hx : s[0].toNat = 116
      · have hd : ((s[0].toNat : Int) == 116) = true := by rw [hx]; rfl
        have he : escV s[0].toNat = (9, true) := by unfold escV; rw [if_neg (H0.out (by omega))]; rw [if_neg (H1.out (by omega))]; rw [if_neg (H2.out (by omega))]; rw [if_pos hx]
        have HX := Lib.hid he
        clear he hx
        go_wp2
        go_region
        go_wp2
        exact bodyPost_ret (v := .tuple #[.int .u8 9, .bool true]) (by simp [results, Tryz.results56, go_sem]) rfl ⟨by rw [HX.out]; rfl, (HB.out.alloc hbs _).drew⟩
      · have hd : ((s[0].toNat : Int) == 116) = false := by rw [beq_eq_false_iff_ne]; omega
        have HX := Lib.hid hx
        clear hx
        go_wp2
        go_region
        go_wp2
        exact ⟨⟨4, rfl, by omega, (HB.out.alloc hbs _).drew, fun _ => H0.out (by omega), fun _ => H1.out (by omega), fun _ => H2.out (by omega), fun _ => HX.out⟩, by simp [intOf]⟩
    · have he : escV s[0].toNat = (0, false) := by unfold escV; rw [if_neg (H0.out (by omega)), if_neg (H1.out (by omega)), if_neg (H2.out (by omega)), if_neg (H3.out (by omega))]
      have HX := Lib.hid he
      clear he
      go_wp2
      exact bodyPost_ret (v := .tuple #[.int .u8 0, .bool false]) (by simp [results, Tryz.results56, go_sem]) rfl ⟨by rw [HX.out]; rfl, HB.out⟩
end Go.Proofs.YtpedmkdpbdhenaaGreatDoor
