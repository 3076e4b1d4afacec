/- Texts in a row: A9 A5. -/
import Derived.Test.YtlbnaddgdgbckaaGreatDoorZ16
import Derived.Outline
import Derived.Test.YtlbnaddgdgbckaaGreatDoorZ15
/- Contracts: strings.Cut at a point. -/
namespace Go.Proofs.YtlbnaddgdgbckaaGreatDoor
open Go.RowKit

theorem cut_none (s : ByteArray) (c : UInt8) (h : Lib.indexByte s.data.toList c = -1) (w : World) : Calls Tryz.prog 127 #[.string s, .string ⟨#[c]⟩] w fun e w' => e = .returned (.tuple #[.string s, .string ⟨#[]⟩, .bool false]) ∧ w = w' := by
  have H := Lib.hid h
  clear h
  go_enter Tryz.func127, Tryz.ntmps127
  go_wp2_with (go_at_call 135; refine (Tryz.stringslite_Index_one _ _ _).mono ?_; rintro e w' ⟨rfl, rfl⟩; rw [H.out])
  go_ret3
  exact ⟨rfl, rfl⟩
def Drew (w w' : World) : Prop := ∃ n, w' = w.drewN n
theorem cut_some (s : ByteArray) (c : UInt8) (i : Nat) (hi : i < s.size) (hm : s.size ≤ 4194304) (h : Lib.indexByte s.data.toList c = i) (w : World) : Calls Tryz.prog 127 #[.string s, .string ⟨#[c]⟩] w fun e w' => e = .returned (.tuple #[.string (s.extract 0 i), .string (s.extract (i + 1) s.size), .bool true]) ∧ Drew w w' := by
  have H := Lib.hid h
  clear h
  have hz : (⟨#[c]⟩ : ByteArray).size = 1 := rfl
  have HZ := Lib.hid hz
  clear hz
  go_enter Tryz.func127, Tryz.ntmps127
  go_wp2_with (go_at_call 135; refine (Tryz.stringslite_Index_one _ _ _).mono ?_; rintro e w' ⟨rfl, rfl⟩; rw [H.out])
  have e1 : IntKind.i64.wrap ((i : Int) + 1) = (i : Int) + 1 := IntWalk.i64_in _ (by omega)
  have e2 : (0 : Int) ≤ (i : Int) + 1 := by omega
  have e3 : ((i : Int) + 1).toNat = i + 1 := by omega
  have e4 : (⟨#[c]⟩ : ByteArray).size = 1 := rfl
  go_quiet (fail)
  go_wp2
  go_ret3
  exact ⟨rfl, _, rfl⟩
end Go.Proofs.YtlbnaddgdgbckaaGreatDoor
/- Contracts: Next, the program's and the document's. -/
namespace Go.Proofs.YtlbnaddgdgbckaaGreatDoor
open Go.RowKit
namespace Sv
def zero : V := ⟨0, 0, 0⟩
def at' (v : V) (g : Int) : Int := if g = 3 then v.a else if g = 2 then v.b else v.c
def up (v : V) (g : Int) : V := if g = 3 then ⟨v.a + 1, 0, 0⟩ else if g = 2 then ⟨v.a, v.b + 1, 0⟩ else ⟨v.a, v.b, v.c + 1⟩
def next (v : V) (g : Int) : V × Int := if right v = false ∨ g < 1 ∨ 3 < g then (zero, 2) else if at' v g = 999999 then (zero, 9) else (up v g, 0)
theorem next_bad {v : V} {g : Int} (h : right v = false ∨ g < 1 ∨ 3 < g) : next v g = (zero, 2) := by unfold next; rw [if_pos h]
theorem next_full {v : V} {g : Int} (h : right v = true) (h1 : 1 ≤ g) (h2 : g ≤ 3) (h3 : at' v g = 999999) : next v g = (zero, 9) := by
  unfold next; rw [if_neg (by rw [h]; simp; omega), if_pos h3]
theorem next_up {v : V} {g : Int} (h : right v = true) (h1 : 1 ≤ g) (h2 : g ≤ 3) (h3 : at' v g ≠ 999999) : next v g = (up v g, 0) := by
  unfold next; rw [if_neg (by rw [h]; simp; omega), if_neg h3]
theorem right_yes {v : V} (h : right v = true) : (0 ≤ v.a ∧ v.a ≤ 999999) ∧ (0 ≤ v.b ∧ v.b ≤ 999999) ∧ (0 ≤ v.c ∧ v.c ≤ 999999) := by
  unfold right at h
  simp at h
  exact ⟨inR_yes h.1.1, inR_yes h.1.2, inR_yes h.2⟩
end Sv
abbrev nxS (r : Sv.V × Int) : Value := .tuple #[vv r.1, .int .i64 r.2]

end Go.Proofs.YtlbnaddgdgbckaaGreatDoor
