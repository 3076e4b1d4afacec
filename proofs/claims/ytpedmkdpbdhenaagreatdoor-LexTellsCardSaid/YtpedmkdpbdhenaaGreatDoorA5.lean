
/- Contracts: Next, the program's and the document's. -/
import Derived.Test.YtpedmkdpbdhenaaGreatDoorA4
import Derived.Outline
namespace Go.Proofs.YtpedmkdpbdhenaaGreatDoor
open Go.RowKit
namespace Sv
def zero : V := ⟨0, 0, 0⟩
def at' (v : V) (g : Int) : Int := if g = 3 then v.a else if g = 2 then v.b else v.c
def up (v : V) (g : Int) : V := if g = 3 then ⟨v.a + 1, 0, 0⟩ else if g = 2 then ⟨v.a, v.b + 1, 0⟩ else ⟨v.a, v.b, v.c + 1⟩
def next (v : V) (g : Int) : V × Int := if right v = false ∨ g < 1 ∨ 3 < g then (zero, 2) else if at' v g = 999999 then (zero, 9) else (up v g, 0)
theorem next_bad {v : V} {g : Int} (h : right v = false ∨ g < 1 ∨ 3 < g) : next v g = (zero, 2) := by unfold next; rw [if_pos h]
theorem next_full {v : V} {g : Int} (h : right v = true) (h1 : 1 ≤ g) (h2 : g ≤ 3) (h3 : at' v g = 999999) : next v g = (zero, 9) := by
  unfold next; rw [if_neg (by rw [h]; simp; omega), if_pos h3]
theorem next_up {v : V} {g : Int} (h : right v = true) (h1 : 1 ≤ g) (h2 : g ≤ 3) (h3 : at' v g ≠ 999999) : next v g = (up v g, 0) := by
  unfold next; rw [if_neg (by rw [h]; simp; omega), if_neg h3]
theorem right_yes {v : V} (h : right v = true) : (0 ≤ v.a ∧ v.a ≤ 999999) ∧ (0 ≤ v.b ∧ v.b ≤ 999999) ∧ (0 ≤ v.c ∧ v.c ≤ 999999) := by
  unfold right at h
  simp at h
  exact ⟨inR_yes h.1.1, inR_yes h.1.2, inR_yes h.2⟩
end Sv
abbrev nx (r : Sv.V × Int) : Value := .tuple #[vv r.1, .int .i64 r.2]

end Go.Proofs.YtpedmkdpbdhenaaGreatDoor
