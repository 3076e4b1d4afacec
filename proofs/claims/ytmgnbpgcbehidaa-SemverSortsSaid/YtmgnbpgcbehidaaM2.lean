/- Mathematics of the order of versions. -/
import Derived.Test.YtmgnbpgcbehidaaA1
namespace Go.Proofs.Ytmgnbpgcbehidaa
namespace Sv
theorem less_iff (x y : V) : less x y = true ↔ x.a < y.a ∨ (x.a = y.a ∧ (x.b < y.b ∨ (x.b = y.b ∧ x.c < y.c))) := by
  unfold less
  split
  · rename_i h; simp; omega
  · rename_i h; have h : x.a = y.a := by simpa using h
    split
    · rename_i g; simp; omega
    · rename_i g; have g : x.b = y.b := by simpa using g
      simp; omega
theorem less_no (x y : V) : less x y = false ↔ ¬ (x.a < y.a ∨ (x.a = y.a ∧ (x.b < y.b ∨ (x.b = y.b ∧ x.c < y.c)))) := by
  rw [← less_iff]; simp
theorem cmp_range (x y : V) : -1 ≤ cmp x y ∧ cmp x y ≤ 1 := by unfold cmp; split <;> (try split) <;> omega
theorem cmp_neg (x y : V) : cmp x y < 0 ↔ less x y = true := by
  unfold cmp; cases less x y <;> cases less y x <;> simp
theorem cmp_pos (x y : V) : 0 < cmp x y ↔ less y x = true := by
  unfold cmp
  cases h : less x y <;> cases g : less y x <;> simp
  rw [less_iff] at h g; omega
theorem cmp_zero (x y : V) : cmp x y = 0 ↔ x = y := by
  constructor
  · intro h
    have h1 : less x y = false := by cases g : less x y with | false => rfl | true => have := (cmp_neg x y).2 g; omega
    have h2 : less y x = false := by cases g : less y x with | false => rfl | true => have := (cmp_pos x y).2 g; omega
    rw [less_no] at h1 h2
    cases x; cases y
    simp at h1 h2 ⊢
    omega
  · rintro rfl
    have h1 : less x x = false := by rw [less_no]; omega
    unfold cmp; rw [h1]; rfl
theorem cmp_swap (x y : V) : cmp y x = - cmp x y := by
  have r := cmp_range x y
  have r2 := cmp_range y x
  have a := cmp_neg x y
  have b := cmp_pos x y
  have c := cmp_neg y x
  have d := cmp_pos y x
  have e : cmp x y < 0 ↔ 0 < cmp y x := a.trans d.symm
  have f : 0 < cmp x y ↔ cmp y x < 0 := b.trans c.symm
  omega
theorem gap_swap (x y : V) : gap y x = gap x y := by unfold gap; simp only [ne_comm]
theorem gap_zero (x y : V) : gap x y = 0 ↔ x = y := by
  unfold gap
  constructor
  · intro h
    cases x; cases y
    simp only at h
    split at h
    · omega
    · split at h
      · omega
      · split at h
        · omega
        · rename_i h1 h2 h3; simp at h1 h2 h3; simp [h1, h2, h3]
  · rintro rfl; simp
theorem gap_range (x y : V) : 0 ≤ gap x y ∧ gap x y ≤ 3 := by unfold gap; split <;> (try split) <;> (try split) <;> omega
theorem cmp_trans (x y z : V) (h1 : cmp x y ≤ 0) (h2 : cmp y z ≤ 0) : cmp x z ≤ 0 := by
  rcases Int.lt_or_le 0 (cmp x z) with h | h
  · have a : less y x = false := by cases g : less y x with | false => rfl | true => have := (cmp_pos x y).2 g; omega
    have b : less z y = false := by cases g : less z y with | false => rfl | true => have := (cmp_pos y z).2 g; omega
    have c := (cmp_pos x z).1 h
    rw [less_no] at a b
    rw [less_iff] at c
    omega
  · exact h
theorem cmp_trans_lt (x y z : V) (h1 : cmp x y < 0) (h2 : cmp y z ≤ 0) : cmp x z < 0 := by
  have a := (cmp_neg x y).1 h1
  have b : less z y = false := by cases g : less z y with | false => rfl | true => have := (cmp_pos y z).2 g; omega
  rw [cmp_neg]
  rw [less_no] at b
  rw [less_iff] at a ⊢
  omega
end Sv
end Go.Proofs.Ytmgnbpgcbehidaa
