/- An append to an empty slice of one's own that has no room: what was there stays. -/
import Derived.Test.YthcpmdgdbceeiaaGreatDoorUd
import Derived.Test.YthcpmdgdbceeiaaGreatDoorRi
namespace Go.Proofs.YthcpmdgdbceeiaaGreatDoor
open Go.RowKit
/-- A slice of texts of one's own. -/
def Inv.MP.own (base : Nat) (xs : List ByteArray) : Inv.MP := ⟨fun v w => w.ownsRow base 9 1 v xs.length (xs.map .string), fun v w w' h hb => own_kept h fun g x hg hx => by
  rw [hb.block g (hb_lt hx), hx]⟩
def Inv.MP.row (xs : List ByteArray) : Inv.MP := ⟨fun v w => SRow w v xs, fun v w w' h hb => h.below hb⟩
def Inv.MP.term (d : Nat) (t : Tm) : Inv.MP := ⟨fun v w => IsT w d v t, fun v w w' h hb => h.below hb⟩
def Inv.MP.kids (d : Nat) (l : List Tm) : Inv.MP := ⟨fun v w => KidsT w d v l, fun v w w' h hb => h.below hb⟩
/-- An empty slice that was made. -/
def Inv.MP.made0 (base : Nat) : Inv.MP := ⟨fun v w => ∃ g, v = .slice (some ⟨g, 0, none⟩) 0 0 ∧ base ≤ g ∧ w.heap[g]? = some (.cells #[] 9 (0, 0)), fun v w w' ⟨g, h1, h2, h3⟩ hb => ⟨g, h1, h2, hb_below h3 hb (hb_lt h3)⟩⟩
theorem append0 (W : World) (base g : Nat) (vx : Value) (l : List ByteArray) (hg : W.heap[g]? = some (.cells #[] 9 (0, 0))) (hbg : base ≤ g) (hr : SRow W vx l) (hn : l.length ≤ 200000) :
    ∃ v' W', (Builtin.append_ #[29, 29] 29 #[.slice (some ⟨g, 0, none⟩) 0 0, vx]).run Tryz.prog W = .ok v' W' ∧ W'.ownsRow base 9 1 v' l.length (l.map .string) ∧ Below W.heap.size W W' := by
  have hgl := hb_lt hg
  obtain ⟨i0, hi, hz0, hz1, hz2⟩ := info_parts info9
  have hown : W.ownsRow base 9 1 (.slice (some ⟨g, 0, none⟩) 0 0) ([] : List ByteArray).length (([] : List ByteArray).map .string) :=
    ⟨rfl, .inr ⟨g, 0, #[], rfl, hbg, hg, Nat.le_refl _, Nat.zero_le _, rfl, rfl⟩⟩
  obtain ⟨v', W', h1, h2, h3, h4⟩ := append_s W base _ vx [] l hown hr (by simpa using hn) (by omega)
  by_cases hl : l = []
  · subst hl
    obtain ⟨q, c, rfl, _⟩ := hr
    have hrun : (Builtin.append_ #[29, 29] 29 #[.slice (some ⟨g, 0, none⟩) 0 0, .slice q ([] : List ByteArray).length c]).run Tryz.prog W = .ok (.slice (some ⟨g, 0, none⟩) 0 0) W := by
      simp [Builtin.append_, run_underlying Tryz.underlying29, sizeOf, typeInfo, hi, Builtin.lenOf, Builtin.firstCells, storeCells, loadCells, loadCellsFrom]
      cases q <;> simp [storeCells, loadCells, loadCellsFrom, Builtin.firstCells]
    exact ⟨_, W, hrun, hown, Below.refl _ _⟩
  · obtain ⟨q, c, rfl, hx⟩ := hr
    cases q with
    | none =>
      obtain ⟨y, hy⟩ := List.exists_mem_of_ne_nil l hl
      obtain ⟨j, hj, e⟩ := List.getElem_of_mem hy
      obtain ⟨b, h, _⟩ := hx j y (by rw [List.getElem?_eq_getElem hj, e])
      cases h
    | some ad =>
      have hcells : ∀ j u, (l.map Value.string)[j]? = some u → W.cell? (ad.add j) = some u := by
        intro j u hu
        rw [List.getElem?_map] at hu
        cases hj : l[j]? with
        | none => rw [hj] at hu; cases hu
        | some s =>
          rw [hj] at hu
          cases hu
          obtain ⟨g2, e, h2⟩ := hx j s hj
          cases e
          rw [add_zero_none]
          exact h2
      have hpos : 0 < l.length := List.length_pos_iff.2 hl
      have hrun := run_append_grow (P := Tryz.prog) W 29 29 9 i0 _ Tryz.underlying29 hi hz0 ⟨g, 0, none⟩ 0 0 [] (by simp) (fun j v h => by simp at h) ad l.length c (l.map .string) (by simp [hz1]) hcells (by omega) (by omega) (growslice_fits (by omega) (by rw [hz2]; omega))
      rw [hrun] at h1
      cases h1
      refine ⟨_, _, hrun, by simpa using h2, ((Below.refl _ W).drew).alloc (Nat.le_refl _) _⟩
end Go.Proofs.YthcpmdgdbceeiaaGreatDoor
