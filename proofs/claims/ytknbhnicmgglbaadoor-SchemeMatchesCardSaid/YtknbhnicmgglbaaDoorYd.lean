/- Canon of the chapter's example. -/
import Derived.Test.YtknbhnicmgglbaaDoorCn
namespace Go.Proofs.YtknbhnicmgglbaaDoor
open Go.RowKit
abbrev tA : ByteArray := ⟨#[97]⟩
abbrev tB : ByteArray := ⟨#[98]⟩
theorem canon_vars : varsT 2 [] (funT tB tA) = [tB, tA] := by decide +kernel
theorem nm_0 : nmB 0 = tA := by decide +kernel
theorem nm_1 : nmB 1 = tB := by decide +kernel
theorem canon_is : canonT 2 (funT tB tA) = funT tA tB := by
  have h : nmT 2 = [vT tA, vT tB] := by
    show [vT (nmB 0), vT (nmB 1)] = _
    rw [nm_0, nm_1]
  unfold canonT
  rw [canon_vars]
  show sub (byOf (fg [tB, tA] 2) (nmT 2)) 2 (funT tB tA) = funT tA tB
  rw [h]
  rfl
def CanonP (w : World) (e : Ending) (w' : World) : Prop := ∃ q c d, e = .returned (tv 3 ⟨#[]⟩ ⟨#[]⟩ 0 (.slice q 2 c)) ∧ IsT w' d (tv 3 ⟨#[]⟩ ⟨#[]⟩ 0 (.slice q 2 c)) (funT tA tB) ∧ Below w.heap.size w w'
theorem canon_any (q : Option Addr) (c : Nat) (w : World) (h : IsT w 2 (tv 3 ⟨#[]⟩ ⟨#[]⟩ 0 (.slice q 2 c)) (funT tB tA)) : Calls Tryd.prog 16 #[tv 3 ⟨#[]⟩ ⟨#[]⟩ 0 (.slice q 2 c)] w (CanonP w) := by
  refine (canonA_any 2 _ _ w h (by simp [Sm, funT]) (by decide +kernel) (by rw [canon_vars]; decide)).mono ?_
  rintro e w' ⟨k, p, n, N, q, l, c, rfl, hx, hb⟩
  rw [canon_is] at hx
  have h2 := hx.isT
  obtain ⟨q', c', e', _⟩ := h2
  cases e'
  exact ⟨_, _, _, rfl, hx.isT, hb⟩
end Go.Proofs.YtknbhnicmgglbaaDoor
