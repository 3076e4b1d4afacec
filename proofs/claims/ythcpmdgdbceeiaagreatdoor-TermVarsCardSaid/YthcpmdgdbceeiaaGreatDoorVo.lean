/- Slices of texts from any place of a block on. -/
import Derived.Test.YthcpmdgdbceeiaaGreatDoorVa
namespace Go.Proofs.YthcpmdgdbceeiaaGreatDoor
open Go.RowKit
def SRowO (w : World) (v : Value) (l : List ByteArray) : Prop := ∃ q c, v = .slice q l.length c ∧ ∀ i s, l[i]? = some s → ∃ g o, q = some ⟨g, o, none⟩ ∧ w.cell? ⟨g, o + i, none⟩ = some (.string s)
theorem SRowO.below {w w' : World} {v : Value} {l : List ByteArray} (h : SRowO w v l) (hb : Below w.heap.size w w') : SRowO w' v l := by
  obtain ⟨q, c, h1, h2⟩ := h
  refine ⟨q, c, h1, fun i s hs => ?_⟩
  obtain ⟨g, o, e, hc⟩ := h2 i s hs
  exact ⟨g, o, e, keep_cell hb hc⟩
theorem SRowO.nil (w : World) : SRowO w (.slice none 0 0) [] := ⟨none, 0, rfl, fun i s h => by simp at h⟩
end Go.Proofs.YthcpmdgdbceeiaaGreatDoor
