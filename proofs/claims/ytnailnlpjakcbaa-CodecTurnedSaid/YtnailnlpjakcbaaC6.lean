/- The chapter's examples hold; a new reader. -/
import Derived.Test.YtnailnlpjakcbaaC2
import Derived.Test.YtnailnlpjakcbaaC3
import Derived.Test.YtnailnlpjakcbaaC5
namespace Go.Proofs.Ytnailnlpjakcbaa
open Go.RowKit

theorem newReader_any (s : ByteArray) (w : World) : Calls Try.prog 33 #[.string s] w fun e w' => e = .returned (.pointer (some ⟨w.heap.size, 0, none⟩)) ∧ w' = w.alloc (.cells #[.string s, .bool true] 76) := by
  go_enter Try.func33, Try.ntmps33
  go_wp2
  go_ret
  exact ⟨rfl, rfl⟩

theorem uv300 : str (Cx.uv 300) = ⟨#[172, 2]⟩ := by
  have h : Cx.top 300 = 1 := Cx.top_eq 300 1 (by decide) (by decide)
  rw [Cx.uv, h]
  rfl
def ab : List ByteArray := [⟨#[49, 50, 51, 52]⟩, ⟨#[53, 54, 55, 56, 57]⟩]
theorem sum_ab : Cx.sum (flat ab) = 3808858755 := by decide +kernel
theorem zig_one : Cx.zig (-1) = 1 := by decide

theorem alive_ok (w : World) : Calls Try.prog 11 #[] w fun e w' => e = .returned (.bool true) ∧ Below w.heap.size w w' := by
  have H1 := Lib.hid uv300
  have H2 := Lib.hid sum_ab
  have H3 := Lib.hid zig_one
  go_enter Try.func11, Try.ntmps11
  go_wp2_with (first
    | (go_at_call 12; refine (uvarint_any 300 (by omega) _).mono ?_; rintro e w1 ⟨rfl, hb1⟩; rw [H1.out])
    | (go_at_call 16; refine (zig_any (-1) (by omega) (by omega) _).mono ?_; rintro e w2 ⟨rfl, rfl⟩; rw [H3.out])
    | (go_at_call 25; refine (sum_some _ _ ab (by decide) (by decide) _ (new_cells _ _ _ _ rfl)).mono ?_; rintro e w3 ⟨rfl, hb3⟩; rw [H2.out])
    | (go_at_call 33; refine (newReader_any _ _).mono ?_; rintro e w4 ⟨rfl, rfl⟩))
  go_ret
  have h1 := hb1.size
  have h3 := hb3.size
  have hB := (hb1.alloc hb1.size _).trans (hb3.mono (by simp; omega))
  exact ⟨rfl, hB.alloc hB.size _⟩
/-- One part. -/
theorem sum_one (s : ByteArray) (hs : s.size ≤ 1000000) (w : World) :
    Calls Try.prog 25 #[.slice (some ⟨w.heap.size, 0, none⟩) 1 1] (w.alloc (.cells #[.string s] 9)) fun e w' => e = .returned (.int .u32 (Cx.sum s.data.toList : Nat)) ∧ Below (w.heap.size + 1) (w.alloc (.cells #[.string s] 9)) w' := by
  have h := sum_some ⟨w.heap.size, 0, none⟩ 1 [s] (by simp) (by simpa using hs) (w.alloc (.cells #[.string s] 9)) (new_cells w _ 9 _ rfl)
  have e : flat [s] = s.data.toList := by simp [flat]
  rw [e, World.size_alloc] at h
  exact h
end Go.Proofs.Ytnailnlpjakcbaa
