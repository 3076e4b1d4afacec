
/- Boxes for terms, two of them, and their stores. -/
import Derived.Test.YtknbhnicmgglbaaDoorXc
import Derived.Test.YtknbhnicmgglbaaDoorIv
namespace Go.Proofs.YtknbhnicmgglbaaDoor
open Go.RowKit
/-- A box for a term that is new, and empty. -/
def Inv.MP.box (base : Nat) : Inv.MP := ⟨fun v w => ∃ g, v = .pointer (some ⟨g, 0, none⟩) ∧ base ≤ g ∧ w.heap[g]? = some (.cells #[.int .i64 0, .string ⟨#[]⟩, .string ⟨#[]⟩, .int .i64 0, .slice none 0 0] 24 (0, 0)),
  fun v w w' ⟨g, h1, h2, h3⟩ hb => ⟨g, h1, h2, hb_below h3 hb (hb_lt h3)⟩⟩
/-- Two boxes that are two. -/
def Inv.Tie.two (a b : Nat) : Inv.Tie := ⟨a, b, fun v u _ => ∃ g g', v = .pointer (some ⟨g, 0, none⟩) ∧ u = .pointer (some ⟨g', 0, none⟩) ∧ g ≠ g', fun v u w w' h _ => h⟩
theorem two_left {w : World} {base : Nat} {u : Value} (hu : (Inv.MP.box base).p u w) : ∃ g g', Value.pointer (some ⟨w.heap.size, 0, none⟩) = .pointer (some ⟨g, 0, none⟩) ∧ u = .pointer (some ⟨g', 0, none⟩) ∧ g ≠ g' := by
  obtain ⟨g, rfl, _, hg⟩ := hu
  exact ⟨_, g, rfl, rfl, by have := hb_lt hg; omega⟩
theorem two_right {w : World} {base : Nat} {u : Value} (hu : (Inv.MP.box base).p u w) : ∃ g g', u = .pointer (some ⟨g, 0, none⟩) ∧ Value.pointer (some ⟨w.heap.size, 0, none⟩) = .pointer (some ⟨g', 0, none⟩) ∧ g ≠ g' := by
  obtain ⟨g, rfl, _, hg⟩ := hu
  exact ⟨g, _, rfl, rfl, by have := hb_lt hg; omega⟩
theorem two_new (w : World) (o1 o2 : Obj) : ((w.alloc o1).alloc o2).heap[w.heap.size]? = some o1 ∧ ((w.alloc o1).alloc o2).heap[w.heap.size + 1]? = some o2 := by
  have h := hb_new (w.alloc o1) o2
  rw [World.size_alloc] at h
  exact ⟨hb_alloc (hb_new w o1) o2, h⟩
theorem box_set {w : World} {base g : Nat} {z0 z1 z2 z3 z4 : Value} (hbg : base ≤ g) (hz : w.heap[g]? = some (.cells #[z0, z1, z2, z3, z4] 24 (0, 0))) (c0 c1 c2 c3 c4 : Value) :
    (((((w.setCell ⟨g, 0, none⟩ c0).setCell ⟨g, 1, none⟩ c1).setCell ⟨g, 2, none⟩ c2).setCell ⟨g, 3, none⟩ c3).setCell ⟨g, 4, none⟩ c4).heap[g]? = some (.cells #[c0, c1, c2, c3, c4] 24 (0, 0)) ∧
    (∀ b, b ≠ g → (((((w.setCell ⟨g, 0, none⟩ c0).setCell ⟨g, 1, none⟩ c1).setCell ⟨g, 2, none⟩ c2).setCell ⟨g, 3, none⟩ c3).setCell ⟨g, 4, none⟩ c4).heap[b]? = w.heap[b]?) ∧
    Below base w (((((w.setCell ⟨g, 0, none⟩ c0).setCell ⟨g, 1, none⟩ c1).setCell ⟨g, 2, none⟩ c2).setCell ⟨g, 3, none⟩ c3).setCell ⟨g, 4, none⟩ c4) := by
  refine ⟨?_, fun b hb => ?_, (((((Below.refl _ w).setCell (by simpa using hbg) _).setCell (by simpa using hbg) _).setCell (by simpa using hbg) _).setCell (by simpa using hbg) _).setCell (by simpa using hbg) _⟩
  · have h0 := hb_set_same hz 0 c0
    have h1 := hb_set_same h0 1 c1
    have h2 := hb_set_same h1 2 c2
    have h3 := hb_set_same h2 3 c3
    have h4 := hb_set_same h3 4 c4
    simpa using h4
  · rw [Below.heap_setCell _ _ _ b hb, Below.heap_setCell _ _ _ b hb, Below.heap_setCell _ _ _ b hb, Below.heap_setCell _ _ _ b hb, Below.heap_setCell _ _ _ b hb]
end Go.Proofs.YtknbhnicmgglbaaDoor
