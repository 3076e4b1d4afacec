
/- Names of variables: three of them; a function type of two. -/
import Derived.Test.YtknbhnicmgglbaaDoorXh
import Derived.Deep.QuietTactic
import Derived.BigQuiet
import Derived.Deep.DeepCutAuto
import Derived.Outline
namespace Go.Proofs.YtknbhnicmgglbaaDoor
open Go.RowKit
set_option maxRecDepth 100000 in
theorem small1 (w : World) : Calls Tryd.prog 37 #[.int .i64 1] w fun e w' => e = .returned (.string ⟨#[49]⟩) ∧ w = w' := by
  go_enter Tryd.func37, Tryd.ntmps37
  go_wp2
  go_ret
  exact ⟨rfl, rfl⟩
theorem format1 (w : World) : Calls Tryd.prog 36 #[.int .i64 1, .int .i64 10] w fun e w' => e = .returned (.string ⟨#[49]⟩) ∧ w = w' := by
  go_enter Tryd.func36, Tryd.ntmps36
  go_wp2_with (go_at_call 37; refine (small1 _).mono ?_; rintro e w1 ⟨rfl, rfl⟩)
  go_ret
  exact ⟨rfl, rfl⟩
theorem itoa1' (w : World) : Calls Tryd.prog 34 #[.int .i64 1] w fun e w' => e = .returned (.string ⟨#[49]⟩) ∧ w = w' := by
  go_enter Tryd.func34, Tryd.ntmps34
  go_wp2_with (go_at_call 36; refine (format1 _).mono ?_; rintro e w1 ⟨rfl, rfl⟩)
  go_ret
  exact ⟨rfl, rfl⟩
theorem itoa1 (w : World) : Calls Tryd.prog 27 #[.int .i64 1] w fun e w' => e = .returned (.string ⟨#[49]⟩) ∧ w = w' := by
  go_enter Tryd.func27, Tryd.ntmps27
  go_wp2_with (go_at_call 34; refine (itoa1' _).mono ?_; rintro e w1 ⟨rfl, rfl⟩)
  go_ret
  exact ⟨rfl, rfl⟩
set_option maxRecDepth 100000 in
theorem name0 (w : World) : Calls Tryd.prog 20 #[.int .i64 0] w fun e w' => e = .returned (.string ⟨#[97]⟩) ∧ w = w' := by
  go_enter Tryd.func20, Tryd.ntmps20
  go_wp2
  go_ret
  exact ⟨rfl, rfl⟩
set_option maxRecDepth 100000 in
theorem name1 (w : World) : Calls Tryd.prog 20 #[.int .i64 1] w fun e w' => e = .returned (.string ⟨#[98]⟩) ∧ w = w' := by
  go_enter Tryd.func20, Tryd.ntmps20
  go_wp2
  go_ret
  exact ⟨rfl, rfl⟩
set_option maxRecDepth 100000 in
theorem name27 (w : World) : Calls Tryd.prog 20 #[.int .i64 27] w fun e w' => e = .returned (.string ⟨#[98, 49]⟩) ∧ w = w' := by
  go_enter Tryd.func20, Tryd.ntmps20
  go_wp2_with (go_at_call 27; refine (itoa1 _).mono ?_; rintro e w1 ⟨rfl, rfl⟩)
  go_ret
  exact ⟨rfl, rfl⟩
def funT (a b : ByteArray) : Tm := .mk 3 ⟨#[]⟩ ⟨#[]⟩ 0 [.mk 1 ⟨#[]⟩ a 0 [], .mk 1 ⟨#[]⟩ b 0 []]
theorem KidsT.two {w : World} {g d : Nat} {k : Int} {p n : ByteArray} {N : Int} {s : Value} {t : Tm} {k2 : Int} {p2 n2 : ByteArray} {N2 : Int} {s2 : Value} {t2 : Tm}
    (h : w.heap[g]? = some (.cells #[.int .i64 k, .string p, .string n, .int .i64 N, s, .int .i64 k2, .string p2, .string n2, .int .i64 N2, s2] 24 (0, 0))) (ht : IsT w d (tv k p n N s) t) (ht2 : IsT w d (tv k2 p2 n2 N2 s2) t2) : KidsT w d (.slice (some ⟨g, 0, none⟩) 2 2) [t, t2] := by
  refine ⟨_, 2, rfl, by unfold maxLen; simp, fun i x hx => ?_⟩
  match i, hx with
  | 0, hx => cases hx; exact ⟨g, 0, k, p, n, N, s, rfl, TAt.of_block h 0 rfl rfl rfl rfl rfl, ht⟩
  | 1, hx => cases hx; exact ⟨g, 0, k2, p2, n2, N2, s2, rfl, TAt.of_block h 5 rfl rfl rfl rfl rfl, ht2⟩
  | i + 2, hx => simp at hx
def FunP (a b : ByteArray) (w : World) (e : Ending) (w' : World) : Prop := ∃ q c, e = .returned (tv 3 ⟨#[]⟩ ⟨#[]⟩ 0 (.slice q 2 c)) ∧ IsT w' 2 (tv 3 ⟨#[]⟩ ⟨#[]⟩ 0 (.slice q 2 c)) (funT a b) ∧ Below w.heap.size w w'
set_option maxRecDepth 100000 in
theorem fun_any (a b : ByteArray) (ha : a.size ≤ maxLen) (hb : b.size ≤ maxLen) (w : World) : Calls Tryd.prog 19 #[.string a, .string b] w (FunP a b w) := by
  have k0 := hb_alloc (hb_new w (.cells #[.int .i64 3, .string ⟨#[]⟩, .string ⟨#[]⟩, .int .i64 0, .slice (some ⟨w.heap.size + 1, 0, none⟩) 2 2] 24)) (.cells #[.int .i64 1, .string ⟨#[]⟩, .string a, .int .i64 0, .slice none 0 0, .int .i64 1, .string ⟨#[]⟩, .string b, .int .i64 0, .slice none 0 0] 24)
  have k1 := hb_new (w.alloc (.cells #[.int .i64 3, .string ⟨#[]⟩, .string ⟨#[]⟩, .int .i64 0, .slice (some ⟨w.heap.size + 1, 0, none⟩) 2 2] 24)) (.cells #[.int .i64 1, .string ⟨#[]⟩, .string a, .int .i64 0, .slice none 0 0, .int .i64 1, .string ⟨#[]⟩, .string b, .int .i64 0, .slice none 0 0] 24)
  rw [World.size_alloc] at k1
  have K1 := Lib.hid k1
  have y0 := hb_at k0 0 rfl
  have y1 := hb_at k0 1 rfl
  have y2 := hb_at k0 2 rfl
  have y3 := hb_at k0 3 rfl
  have y4 := hb_at k0 4 rfl
  have HB := Lib.hid (below2 w (.cells #[.int .i64 3, .string ⟨#[]⟩, .string ⟨#[]⟩, .int .i64 0, .slice (some ⟨w.heap.size + 1, 0, none⟩) 2 2] 24) (.cells #[.int .i64 1, .string ⟨#[]⟩, .string a, .int .i64 0, .slice none 0 0, .int .i64 1, .string ⟨#[]⟩, .string b, .int .i64 0, .slice none 0 0] 24))
  clear k0 k1
  go_enter Tryd.func19, Tryd.ntmps19
  go_wp2
  refine bodyPost_ret (v := tv 3 ⟨#[]⟩ ⟨#[]⟩ 0 (.slice (some ⟨w.heap.size + 1, 0, none⟩) 2 2)) (by simp [results, Tryd.results19, go_sem, y0, y1, y2, y3, y4]) rfl ?_
  have hz : (⟨#[]⟩ : ByteArray).size ≤ maxLen := Nat.zero_le _
  refine ⟨_, _, rfl, IsT.shut hz hz (KidsT.two K1.out ?_ ?_), HB.out⟩
  · exact IsT.shut hz ha ⟨none, 0, rfl, Nat.zero_le _, fun i x hx => by simp at hx⟩
  · exact IsT.shut hz hb ⟨none, 0, rfl, Nat.zero_le _, fun i x hx => by simp at hx⟩
end Go.Proofs.YtknbhnicmgglbaaDoor
