/- No, alive; two commands held against each other. -/
import Derived.Test.YtfbfdkjimoomlaaR8
namespace Go.Proofs.Ytfbfdkjimoomlaa
open Go.RowKit
theorem no_any (n : Int) (w : World) : Calls Try.prog 10 #[.int .i64 n] w fun e w' => e = .returned (.int .i64 n) ∧ w = w' := by
  go_enter Try.func10, Try.ntmps10
  go_wp2
  go_ret
  exact ⟨rfl, rfl⟩
theorem eqC (c : Cm.Cmd) (w : World) : (binOp .eql 27 (cmdv c) (cmdv c)).run Try.prog w = .ok (.bool true) w := by
  go_simp
theorem neC (c : Cm.Cmd) (w : World) : (binOp .neq 27 (cmdv c) (cmdv c)).run Try.prog w = .ok (.bool false) w := by
  go_simp
abbrev c9 : Cm.Cmd := ⟨9, Cm.noPin, Cm.noPin, ⟨#[]⟩⟩
abbrev c5 : Cm.Cmd := ⟨5, ⟨⟨#[97]⟩, Cm.zV⟩, Cm.noPin, ⟨#[]⟩⟩
theorem right9 : Cm.Right c9 := ⟨by decide, fun h => absurd h (by decide), fun _ => rfl, fun h => absurd h (by decide), fun _ => rfl, by decide, fun _ => rfl⟩
theorem pkg_a : Sv.PkgP [97] := ⟨by decide, by decide, by decide, by decide⟩
theorem right5 : Cm.Right c5 := by
  refine ⟨by decide, fun _ => ?_, fun h => absurd h (by decide), fun h => absurd h (by decide), fun _ => rfl, by decide, fun _ => rfl⟩
  unfold Cm.okOne
  rw [show (⟨#[97]⟩ : ByteArray).data.toList = [97] from rfl, Sv.pkg_yes pkg_a]
  rfl
theorem uv_small_eq (x : Nat) (h : x < 128) : Cx.uv x = [UInt8.ofNat x] := by
  unfold Cx.uv
  rw [Cx.top_eq x 0 (by omega) (by omega)]
  rfl
theorem enc9 : Cm.encB c9 = [9] := by
  show Cm.num 9 ++ ([] ++ ([] ++ [])) = _
  unfold Cm.num
  rw [show (9 : Int).toNat = 9 from rfl, uv_small_eq 9 (by decide)]
  rfl
theorem enc5 : Cm.encB c5 = [5, 1, 97, 0, 0, 0] := by
  show Cm.num 5 ++ (Cm.pinB ⟨⟨#[97]⟩, Cm.zV⟩ ++ ([] ++ [])) = _
  unfold Cm.pinB Cm.num txt
  rw [show (5 : Int).toNat = 5 from rfl, show (0 : Int).toNat = 0 from rfl, show (⟨#[97]⟩ : ByteArray).size = 1 from rfl, uv_small_eq 5 (by decide), uv_small_eq 0 (by decide), uv_small_eq 1 (by decide)]
  rfl
theorem encode9 (w : World) : Calls Try.prog 8 #[.agg #[.int .i64 9, .string ⟨#[]⟩, .int .i64 0, .int .i64 0, .int .i64 0, .string ⟨#[]⟩, .int .i64 0, .int .i64 0, .int .i64 0, .string ⟨#[]⟩]] w fun e w' => e = .returned (.tuple #[.string ⟨#[9]⟩, .int .i64 0]) ∧ Below w.heap.size w w' := by
  have h := cmdEncode_any c9 w
  rw [Cm.encS_yes (Cm.right_yes right9), enc9] at h
  exact h
theorem encode5 (w : World) : Calls Try.prog 8 #[.agg #[.int .i64 5, .string ⟨#[97]⟩, .int .i64 0, .int .i64 0, .int .i64 0, .string ⟨#[]⟩, .int .i64 0, .int .i64 0, .int .i64 0, .string ⟨#[]⟩]] w fun e w' => e = .returned (.tuple #[.string ⟨#[5, 1, 97, 0, 0, 0]⟩, .int .i64 0]) ∧ Below w.heap.size w w' := by
  have h := cmdEncode_any c5 w
  rw [Cm.encS_yes (Cm.right_yes right5), enc5] at h
  exact h
theorem decode5 (w : World) : Calls Try.prog 15 #[.string ⟨#[5, 1, 97, 0, 0, 0]⟩] w fun e w' => e = .returned (.tuple #[.agg #[.int .i64 5, .string ⟨#[97]⟩, .int .i64 0, .int .i64 0, .int .i64 0, .string ⟨#[]⟩, .int .i64 0, .int .i64 0, .int .i64 0, .string ⟨#[]⟩], .int .i64 0]) ∧ Below w.heap.size w w' := by
  have h := decode_any [5, 1, 97, 0, 0, 0] (by decide) w
  rw [Cm.dec_yes Cm.fine_wr right5 enc5.symm] at h
  exact h
theorem mut2 (w : World) : Calls Try.prog 13 #[.int .i64 2] w fun e w' => e = .returned (.bool true) ∧ w = w' := mutates_any 2 w
theorem mut4 (w : World) : Calls Try.prog 13 #[.int .i64 4] w fun e w' => e = .returned (.bool false) ∧ w = w' := mutates_any 4 w
set_option maxRecDepth 100000 in
theorem alive_ok (w : World) : Calls Try.prog 7 #[] w fun e w' => e = .returned (.bool true) ∧ Below w.heap.size w w' := by
  go_enter Try.func7, Try.ntmps7
  go_wp2_with (first
    | (go_at_call 8; ((with_reducible refine (encode9 _).mono ?_); rintro e w1 ⟨rfl, hb1⟩; have HB1 := Lib.hid hb1; clear hb1))
    | (go_at_call 8; ((with_reducible refine (encode5 _).mono ?_); rintro e w2 ⟨rfl, hb2⟩; have HB2 := Lib.hid hb2; clear hb2))
    | (go_at_call 15; ((with_reducible refine (decode5 _).mono ?_); rintro e w3 ⟨rfl, hb3⟩; have HB3 := Lib.hid hb3; clear hb3))
    | (go_at_call 10; ((with_reducible refine (no_any _ _).mono ?_); rintro e w' ⟨rfl, rfl⟩))
    | (go_at_call 13; ((with_reducible refine (mut2 _).mono ?_); rintro e w' ⟨rfl, rfl⟩))
    | (go_at_call 13; ((with_reducible refine (mut4 _).mono ?_); rintro e w' ⟨rfl, rfl⟩)))
  go_ret
  exact ⟨rfl, ((HB1.out.trans (HB2.out.mono HB1.out.size)).trans (HB3.out.mono (Nat.le_trans HB1.out.size HB2.out.size))).alloc (Nat.le_trans HB1.out.size (Nat.le_trans HB2.out.size HB3.out.size)) _⟩
end Go.Proofs.Ytfbfdkjimoomlaa
