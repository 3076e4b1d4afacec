/- Contracts: cmp.Compare, cmp.Or of three, Compare of two versions, the document's Less and Compare, both Gaps. -/
import Derived.Test.YtmgnbpgcbehidaaA0
import Derived.Outline
import Derived.Deep.RegionHeld3
import Derived.StillTailTactics
import Derived.BigQuiet
import Derived.Deep.QuietTactic
import Derived.Deep.RegionWith
namespace Go.Proofs.Ytmgnbpgcbehidaa
open Go.RowKit

namespace Sv
def cmpI (a b : Int) : Int := if a < b then -1 else if b < a then 1 else 0
def orI (a b c : Int) : Int := if a ≠ 0 then a else if b ≠ 0 then b else c
/-- A version. -/
structure V where
  a : Int
  b : Int
  c : Int
deriving DecidableEq
def less (x y : V) : Bool := if x.a ≠ y.a then decide (x.a < y.a) else if x.b ≠ y.b then decide (x.b < y.b) else decide (x.c < y.c)
def cmp (x y : V) : Int := if less x y then -1 else if less y x then 1 else 0
def gap (x y : V) : Int := if x.a ≠ y.a then 3 else if x.b ≠ y.b then 2 else if x.c ≠ y.c then 1 else 0
theorem cmp_or (x y : V) : orI (cmpI x.a y.a) (cmpI x.b y.b) (cmpI x.c y.c) = cmp x y := by
  unfold orI cmpI cmp less
  rcases Int.lt_trichotomy x.a y.a with h | h | h <;> rcases Int.lt_trichotomy x.b y.b with g | g | g <;> rcases Int.lt_trichotomy x.c y.c with k | k | k <;>
    simp [h, g, k, Int.ne_of_lt, Int.ne_of_gt, Int.lt_asymm, Int.lt_irrefl]
end Sv
abbrev vv (x : Sv.V) : Value := .agg #[.int .i64 x.a, .int .i64 x.b, .int .i64 x.c]
abbrev vcells (x : Sv.V) : Array Value := #[.int .i64 x.a, .int .i64 x.b, .int .i64 x.c]

theorem isNaN_any (a : Int) (w : World) : Calls Try.prog 32 #[.int .i64 a] w fun e w' => e = .returned (.bool false) ∧ w = w' := by
  go_enter Try.func32, Try.ntmps32
  go_wp2
  go_ret
  exact ⟨rfl, rfl⟩
theorem cmpI_any (a b : Int) (w : World) : Calls Try.prog 24 #[.int .i64 a, .int .i64 b] w fun e w' => e = .returned (.int .i64 (Sv.cmpI a b)) ∧ w = w' := by
  rcases Int.lt_trichotomy a b with h | h | h
  · have H : RowKit.Hid (-1 = Sv.cmpI a b) := by unfold Sv.cmpI; rw [if_pos h]; exact Lib.hid rfl
    go_enter Try.func24, Try.ntmps24
    go_wp2_with (go_at_call 32; refine (isNaN_any _ _).mono ?_; rintro e w' ⟨rfl, rfl⟩)
    go_ret
    exact ⟨ret_int H.out, rfl⟩
  · have H : RowKit.Hid (0 = Sv.cmpI a b) := by unfold Sv.cmpI; rw [if_neg (by omega), if_neg (by omega)]; exact Lib.hid rfl
    have h1 : ¬ a < b := by omega
    have h2 : ¬ b < a := by omega
    clear h
    go_enter Try.func24, Try.ntmps24
    go_wp2_with (go_at_call 32; refine (isNaN_any _ _).mono ?_; rintro e w' ⟨rfl, rfl⟩)
    go_ret
    exact ⟨ret_int H.out, rfl⟩
  · have H : RowKit.Hid (1 = Sv.cmpI a b) := by unfold Sv.cmpI; rw [if_neg (by omega), if_pos h]; exact Lib.hid rfl
    have h1 : ¬ a < b := by omega
    go_enter Try.func24, Try.ntmps24
    go_wp2_with (go_at_call 32; refine (isNaN_any _ _).mono ?_; rintro e w' ⟨rfl, rfl⟩)
    go_ret
    exact ⟨ret_int H.out, rfl⟩
theorem less_any (x y : Sv.V) (w : World) : Calls Try.prog 25 #[vv x, vv y] w fun e w' => e = .returned (.bool (Sv.less x y)) ∧ Below w.heap.size w w' := by
  have H : RowKit.Hid (∀ b : Bool, b = Sv.less x y → Ending.returned (.bool b) = .returned (.bool (Sv.less x y))) := Lib.hid fun b h => ret_bool h
  by_cases ha : x.a = y.a
  · have H1 : RowKit.Hid (Sv.less x y = if x.b ≠ y.b then decide (x.b < y.b) else decide (x.c < y.c)) := by unfold Sv.less; rw [if_neg (by simpa using ha)]; exact Lib.hid rfl
    by_cases hb : x.b = y.b
    · have h1 : (x.a == y.a) = true := by simpa using ha
      have h2 : (x.b == y.b) = true := by simpa using hb
      have HA := Lib.hid ha
      have HB := Lib.hid hb
      clear ha hb
      go_enter Try.func25, Try.ntmps25
      go_wp2
      go_ret
      exact ⟨ret_bool (by rw [H1.out, if_neg (by simpa using HB.out)]), (below_alloc _ _).trans ((below_alloc _ _).mono (by simp))⟩
    · have h1 : (x.a == y.a) = true := by simpa using ha
      have h2 : (x.b == y.b) = false := by simpa using hb
      have HA := Lib.hid ha
      have HB := Lib.hid hb
      clear ha hb
      go_enter Try.func25, Try.ntmps25
      go_wp2
      go_ret
      exact ⟨ret_bool (by rw [H1.out, if_pos (by simpa using HB.out)]), (below_alloc _ _).trans ((below_alloc _ _).mono (by simp))⟩
  · have H1 : RowKit.Hid (Sv.less x y = decide (x.a < y.a)) := by unfold Sv.less; rw [if_pos (by simpa using ha)]; exact Lib.hid rfl
    have h1 : (x.a == y.a) = false := by simpa using ha
    clear ha
    go_enter Try.func25, Try.ntmps25
    go_wp2
    go_ret
    exact ⟨ret_bool (by rw [H1.out]), (below_alloc _ _).trans ((below_alloc _ _).mono (by simp))⟩

theorem bcell {W w1 : World} (hb : Below W.heap.size W w1) : (∀ b o, b < W.heap.size → w1.cell? ⟨b, o, none⟩ = W.cell? ⟨b, o, none⟩) ∧ (∀ b o, b < W.heap.size → w1.frozen? ⟨b, o, none⟩ = W.frozen? ⟨b, o, none⟩) :=
  ⟨fun b o h => hb.cell (p := ⟨b, o, none⟩) h, fun b o h => hb.frozen (p := ⟨b, o, none⟩) h⟩
end Go.Proofs.Ytmgnbpgcbehidaa
