
/- Writer's T with one text, on a writer and on none. -/
import Derived.Test.YtfbfdkjimoomlaaD2
namespace Go.Proofs.Ytfbfdkjimoomlaa
open Go.RowKit

def txt (s : ByteArray) : List UInt8 := Cx.uv s.size ++ s.data.toList
theorem txt_len (s : ByteArray) : (txt s).length = (Cx.uv s.size).length + s.size := by
  rw [txt, List.length_append, Array.length_toList]; rfl

set_option maxHeartbeats 1000000 in
theorem wT_nil (S c : Nat) (s : ByteArray) (w : World) (hs : s.size ≤ 140737488351232) (hS : w.cell? ⟨S, 0, none⟩ = some (.string s)) :
    Calls Try.prog 25 #[.pointer none, .slice (some ⟨S, 0, none⟩) 1 c] w fun e w' => e = .returned (.tuple #[]) ∧ Below w.heap.size w w' := by
  have hl10 := uv_small s.size (by omega)
  have hlt := txt_len s
  have HT := Lib.hid hlt
  have hlt2 : (txt s).length ≤ 140737488351242 := by omega
  clear hlt
  obtain ⟨i0, hi, hz0, hz1, hz2⟩ := info_parts info5
  go_enter Try.func25, Try.ntmps25
  go_wp2
  go_loopw [4, 9] (fun b i wr => One w (txt s) i b wr) (fun _ i _ => 1 - (intOf i).toNat)
  case atStart => exact .inl ⟨rfl, rfl, rfl⟩
  case round =>
    rcases hrel with ⟨rfl, rfl, rfl⟩ | ⟨rfl, hown, hbel⟩
    · go_wp2_with (first
        | (go_at_call 50; refine (add_any _ 0 s.size _ [] _ (by omega) (World.ownsRow_nil _ _ _ _) (by omega) (Nat.le_refl _)).mono ?_; rintro e w1 ⟨v1, rfl, hown1, hbel1⟩)
        | (refine wpList_append_str rfl (.tmp 18) (.tmp 19) rfl wr.heap.size i0 hi hz0 hz1 hz2 _ _ _ rfl hown1 s rfl (by omega) hbel1.size ?_; intro v2 w2 hown2 hg2))
      go_roundw
      case rel =>
        rw [Nat.zero_add, List.nil_append, ← bytesV_append] at hown2
        refine .inr ⟨rfl, ?_, hbel1.grown hg2 hbel1.size (fun k hk => own_block hown1 k hk)⟩
        rw [HT.out]
        exact hown2
      case measure => simp [intOf]
    · go_wp2_with (go_at_call 51; ((with_reducible refine (add_nil _ _).mono ?_); rintro e w9 ⟨rfl, rfl⟩))
      go_end0
      exact ⟨rfl, hbel⟩

set_option maxHeartbeats 1000000 in
theorem wT_one (B : Nat) (ps : List (List UInt8)) (S c : Nat) (s : ByteArray) (w : World) (hW : Wr w B ps) (hp : (text ps).length ≤ 1000000) (hs : s.size ≤ 140737488351232) (hS : w.cell? ⟨S, 0, none⟩ = some (.string s)) :
    Calls Try.prog 25 #[.pointer (some ⟨B, 0, none⟩), .slice (some ⟨S, 0, none⟩) 1 c] w fun e w' => e = .returned (.tuple #[]) ∧ Wr w' B (txt s :: ps) ∧ w.grownBy w' (some B) := by
  have hl10 := uv_small s.size (by omega)
  have hlt := txt_len s
  have HT := Lib.hid hlt
  have hlt2 : (txt s).length ≤ 140737488351242 := by omega
  clear hlt
  obtain ⟨i0, hi, hz0, hz1, hz2⟩ := info_parts info5
  go_enter Try.func25, Try.ntmps25
  go_wp2
  go_loopw [4, 9] (fun b i wr => One w (txt s) i b wr) (fun _ i _ => 1 - (intOf i).toNat)
  case atStart => exact .inl ⟨rfl, rfl, rfl⟩
  case round =>
    rcases hrel with ⟨rfl, rfl, rfl⟩ | ⟨rfl, hown, hbel⟩
    · go_wp2_with (first
        | (go_at_call 50; refine (add_any _ 0 s.size _ [] _ (by omega) (World.ownsRow_nil _ _ _ _) (by omega) (Nat.le_refl _)).mono ?_; rintro e w1 ⟨v1, rfl, hown1, hbel1⟩)
        | (refine wpList_append_str rfl (.tmp 18) (.tmp 19) rfl wr.heap.size i0 hi hz0 hz1 hz2 _ _ _ rfl hown1 s rfl (by omega) hbel1.size ?_; intro v2 w2 hown2 hg2))
      go_roundw
      case rel =>
        rw [Nat.zero_add, List.nil_append, ← bytesV_append] at hown2
        refine .inr ⟨rfl, ?_, hbel1.grown hg2 hbel1.size (fun k hk => own_block hown1 k hk)⟩
        rw [HT.out]
        exact hown2
      case measure => simp [intOf]
    · go_wp2_with (go_at_call 51; ((with_reducible refine (add_piece B ps _ _ _ (hW.below hbel) (own_base hown (by have := hW.lt; omega)) (by omega) hp).mono ?_); rintro e w9 ⟨rfl, hW9, hg9⟩))
      go_end0
      exact ⟨rfl, hW9, (below_grown hbel _).trans hg9⟩
end Go.Proofs.Ytfbfdkjimoomlaa
