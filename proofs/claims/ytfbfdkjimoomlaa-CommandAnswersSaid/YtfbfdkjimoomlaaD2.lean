
/- Writer's U and I with one number, on a writer and on none. -/
import Derived.Test.YtfbfdkjimoomlaaD1
namespace Go.Proofs.Ytfbfdkjimoomlaa
open Go.RowKit

theorem add_nil (v : Value) (w : World) : Calls Try.prog 51 #[.pointer none, v] w fun e w' => e = .returned (.tuple #[]) ∧ w = w' := by
  go_enter Try.func51, Try.ntmps51
  go_wp2
  exact bodyPost_ret (v := .tuple #[]) (results_none rfl _ _ _) rfl ⟨rfl, rfl⟩

/-- Bytes of the call's own, as the loop of one round has them: none, or those of the one number. -/
def One (w : World) (l : List UInt8) (i b : Value) (wr : World) : Prop :=
  (i = .int .i64 0 ∧ b = .slice none 0 0 ∧ wr = w) ∨ (i = .int .i64 1 ∧ wr.ownsRow w.heap.size 5 1 b l.length (bytesV l) ∧ Below w.heap.size w wr)
theorem uv_small (x : Nat) (h : x < 18446744073709551616) : (Cx.uv x).length ≤ 10 := by
  have := Cx.top_le9 x h
  rw [Cx.uv_len]; omega

set_option maxHeartbeats 1000000 in
theorem wU_nil (S c : Nat) (x : Nat) (w : World) (hx : x < 18446744073709551616) (hS : w.cell? ⟨S, 0, none⟩ = some (.int .u64 x)) :
    Calls Try.prog 22 #[.pointer none, .slice (some ⟨S, 0, none⟩) 1 c] w fun e w' => e = .returned (.tuple #[]) ∧ Below w.heap.size w w' := by
  have hS0 := hS
  have hl10 := uv_small x hx
  go_enter Try.func22, Try.ntmps22
  go_wp2
  go_loopw [4, 9] (fun b i wr => One w (Cx.uv x) i b wr) (fun _ i _ => 1 - (intOf i).toNat)
  case atStart => exact .inl ⟨rfl, rfl, rfl⟩
  case round =>
    rcases hrel with ⟨rfl, rfl, rfl⟩ | ⟨rfl, hown, hbel⟩
    · go_wp2_with (first
        | (go_at_call 50; refine (add_any _ 0 x _ [] _ hx (World.ownsRow_nil _ _ _ _) (by omega) (Nat.le_refl _)).mono ?_; rintro e w1 ⟨v1, rfl, hown1, hbel1⟩)
        )
      go_roundw
      case rel =>
        rw [Nat.zero_add, List.nil_append] at hown1
        exact .inr ⟨rfl, hown1, hbel1⟩
      case measure => simp [intOf]
    · go_wp2_with (go_at_call 51; ((with_reducible refine (add_nil _ _).mono ?_); rintro e w9 ⟨rfl, rfl⟩))
      go_end0
      exact ⟨rfl, hbel⟩

set_option maxHeartbeats 1000000 in
theorem wU_one (B : Nat) (ps : List (List UInt8)) (S c : Nat) (x : Nat) (w : World) (hW : Wr w B ps) (hp : (text ps).length ≤ 1000000) (hx : x < 18446744073709551616) (hS : w.cell? ⟨S, 0, none⟩ = some (.int .u64 x)) :
    Calls Try.prog 22 #[.pointer (some ⟨B, 0, none⟩), .slice (some ⟨S, 0, none⟩) 1 c] w fun e w' => e = .returned (.tuple #[]) ∧ Wr w' B (Cx.uv x :: ps) ∧ w.grownBy w' (some B) := by
  have hS0 := hS
  have hl10 := uv_small x hx
  go_enter Try.func22, Try.ntmps22
  go_wp2
  go_loopw [4, 9] (fun b i wr => One w (Cx.uv x) i b wr) (fun _ i _ => 1 - (intOf i).toNat)
  case atStart => exact .inl ⟨rfl, rfl, rfl⟩
  case round =>
    rcases hrel with ⟨rfl, rfl, rfl⟩ | ⟨rfl, hown, hbel⟩
    · go_wp2_with (first
        | (go_at_call 50; refine (add_any _ 0 x _ [] _ hx (World.ownsRow_nil _ _ _ _) (by omega) (Nat.le_refl _)).mono ?_; rintro e w1 ⟨v1, rfl, hown1, hbel1⟩)
        )
      go_roundw
      case rel =>
        rw [Nat.zero_add, List.nil_append] at hown1
        exact .inr ⟨rfl, hown1, hbel1⟩
      case measure => simp [intOf]
    · go_wp2_with (go_at_call 51; ((with_reducible refine (add_piece B ps _ _ _ (hW.below hbel) (own_base hown (by have := hW.lt; omega)) (by omega) hp).mono ?_); rintro e w9 ⟨rfl, hW9, hg9⟩))
      go_end0
      exact ⟨rfl, hW9, (below_grown hbel _).trans hg9⟩

set_option maxHeartbeats 1000000 in
theorem wI_nil (S c : Nat) (n : Int) (w : World) (hn : -9223372036854775808 ≤ n ∧ n ≤ 9223372036854775807) (hS : w.cell? ⟨S, 0, none⟩ = some (.int .i64 n)) :
    Calls Try.prog 44 #[.pointer none, .slice (some ⟨S, 0, none⟩) 1 c] w fun e w' => e = .returned (.tuple #[]) ∧ Below w.heap.size w w' := by
  have hzl := Cx.zig_lt n hn.1 hn.2
  obtain ⟨h1, h2⟩ := hn
  have hl10 := uv_small (Cx.zig n) hzl
  go_enter Try.func44, Try.ntmps44
  go_wp2
  go_loopw [4, 9] (fun b i wr => One w (Cx.uv (Cx.zig n)) i b wr) (fun _ i _ => 1 - (intOf i).toNat)
  case atStart => exact .inl ⟨rfl, rfl, rfl⟩
  case round =>
    rcases hrel with ⟨rfl, rfl, rfl⟩ | ⟨rfl, hown, hbel⟩
    · go_wp2_with (first
        | (go_at_call 50; refine (add_any _ 0 (Cx.zig n) _ [] _ hzl (World.ownsRow_nil _ _ _ _) (by omega) (Nat.le_refl _)).mono ?_; rintro e w1 ⟨v1, rfl, hown1, hbel1⟩)
        | (go_at_call 62; ((with_reducible refine (zig_any _ (by omega) (by omega) _).mono ?_); rintro e w2 ⟨rfl, rfl⟩)))
      go_roundw
      case rel =>
        rw [Nat.zero_add, List.nil_append] at hown1
        exact .inr ⟨rfl, hown1, hbel1⟩
      case measure => simp [intOf]
    · go_wp2_with (go_at_call 51; ((with_reducible refine (add_nil _ _).mono ?_); rintro e w9 ⟨rfl, rfl⟩))
      go_end0
      exact ⟨rfl, hbel⟩

set_option maxHeartbeats 1000000 in
theorem wI_one (B : Nat) (ps : List (List UInt8)) (S c : Nat) (n : Int) (w : World) (hW : Wr w B ps) (hp : (text ps).length ≤ 1000000) (hn : -9223372036854775808 ≤ n ∧ n ≤ 9223372036854775807) (hS : w.cell? ⟨S, 0, none⟩ = some (.int .i64 n)) :
    Calls Try.prog 44 #[.pointer (some ⟨B, 0, none⟩), .slice (some ⟨S, 0, none⟩) 1 c] w fun e w' => e = .returned (.tuple #[]) ∧ Wr w' B (Cx.uv (Cx.zig n) :: ps) ∧ w.grownBy w' (some B) := by
  have hzl := Cx.zig_lt n hn.1 hn.2
  obtain ⟨h1, h2⟩ := hn
  have hl10 := uv_small (Cx.zig n) hzl
  go_enter Try.func44, Try.ntmps44
  go_wp2
  go_loopw [4, 9] (fun b i wr => One w (Cx.uv (Cx.zig n)) i b wr) (fun _ i _ => 1 - (intOf i).toNat)
  case atStart => exact .inl ⟨rfl, rfl, rfl⟩
  case round =>
    rcases hrel with ⟨rfl, rfl, rfl⟩ | ⟨rfl, hown, hbel⟩
    · go_wp2_with (first
        | (go_at_call 50; refine (add_any _ 0 (Cx.zig n) _ [] _ hzl (World.ownsRow_nil _ _ _ _) (by omega) (Nat.le_refl _)).mono ?_; rintro e w1 ⟨v1, rfl, hown1, hbel1⟩)
        | (go_at_call 62; ((with_reducible refine (zig_any _ (by omega) (by omega) _).mono ?_); rintro e w2 ⟨rfl, rfl⟩)))
      go_roundw
      case rel =>
        rw [Nat.zero_add, List.nil_append] at hown1
        exact .inr ⟨rfl, hown1, hbel1⟩
      case measure => simp [intOf]
    · go_wp2_with (go_at_call 51; ((with_reducible refine (add_piece B ps _ _ _ (hW.below hbel) (own_base hown (by have := hW.lt; omega)) (by omega) hp).mono ?_); rintro e w9 ⟨rfl, hW9, hg9⟩))
      go_end0
      exact ⟨rfl, hW9, (below_grown hbel _).trans hg9⟩
end Go.Proofs.Ytfbfdkjimoomlaa
