/- Mathematics of lists that rise, each version once: insertion; there is but one of given members. -/
import Derived.Test.YtmgnbpgcbehidaaJ2
namespace Go.Proofs.Ytmgnbpgcbehidaa
namespace Sv
def Up (l : List V) : Prop := l.Pairwise fun a b => less a b = true
theorem less_irr (x : V) : less x x = false := by rw [less_no]; omega
theorem less_tr {x y z : V} (h1 : less x y = true) (h2 : less y z = true) : less x z = true := by rw [less_iff] at *; omega
theorem less_tri {x y : V} (h1 : less x y = false) (h : x ≠ y) : less y x = true := by
  rw [less_no] at h1
  rw [less_iff]
  cases x; cases y
  simp at h1 h ⊢
  omega
theorem up_of {l : List V} (h : l.Pairwise fun a b => less b a = false) (hn : l.Nodup) : Up l := by
  unfold Up
  exact (List.Pairwise.and h hn).imp fun ⟨h1, h2⟩ => less_tri h1 (fun e => h2 e.symm)
theorem up_one {a b : List V} (ha : Up a) (hb : Up b) (hm : ∀ x, x ∈ a ↔ x ∈ b) : a = b := by
  have na : a.Nodup := ha.imp fun h e => by rw [e, less_irr] at h; cases h
  have nb : b.Nodup := hb.imp fun h e => by rw [e, less_irr] at h; cases h
  have hp : a.Perm b := (List.perm_ext_iff_of_nodup na nb).2 hm
  exact List.Perm.eq_of_pairwise (le := fun x y => less x y = true) (fun x y _ _ h1 h2 => by have := less_tr h1 h2; rw [less_irr] at this; cases this) ha hb hp
theorem up_put {l : List V} {x : V} {k : Nat} (h : Up l) (hk : k ≤ l.length) (h1 : ∀ j (hj : j < l.length), j < k → less l[j] x = true) (h2 : ∀ (hk2 : k < l.length), less l[k] x = false ∧ l[k] ≠ x) : Up (l.take k ++ [x] ++ l.drop k) := by
  have e : l = l.take k ++ l.drop k := (List.take_append_drop k l).symm
  have hl : Up (l.take k ++ l.drop k) := by rw [← e]; exact h
  unfold Up at hl ⊢
  rw [List.pairwise_append] at hl
  obtain ⟨a, b, c⟩ := hl
  rw [List.append_assoc, List.pairwise_append]
  refine ⟨a, ?_, ?_⟩
  · rw [List.singleton_append, List.pairwise_cons]
    refine ⟨fun y hy => ?_, b⟩
    by_cases hk2 : k < l.length
    · have hx := less_tri (h2 hk2).1 (h2 hk2).2
      rw [List.drop_eq_getElem_cons hk2] at hy b
      rcases List.mem_cons.1 hy with rfl | hy
      · exact hx
      · exact less_tr hx ((List.pairwise_cons.1 b).1 y hy)
    · rw [List.drop_of_length_le (by omega)] at hy; cases hy
  · intro y hy z hz
    obtain ⟨j, hj, rfl⟩ := List.getElem_of_mem hy
    rw [List.length_take] at hj
    rw [List.getElem_take]
    have hjx := h1 j (by omega) (by omega)
    rcases List.mem_append.1 hz with hz | hz
    · rw [List.mem_singleton.1 hz]; exact hjx
    · exact c _ (by rw [← List.getElem_take (h := by rw [List.length_take]; omega)]; exact List.getElem_mem _) z hz
theorem mem_put {l : List V} {x y : V} {k : Nat} : y ∈ l.take k ++ [x] ++ l.drop k ↔ y = x ∨ y ∈ l := by
  have e : y ∈ l ↔ y ∈ l.take k ∨ y ∈ l.drop k := by rw [← List.mem_append, List.take_append_drop]
  rw [e, List.mem_append, List.mem_append, List.mem_singleton]
  constructor
  · rintro ((h | h) | h)
    · exact .inr (.inl h)
    · exact .inl h
    · exact .inr (.inr h)
  · rintro (h | h | h)
    · exact .inl (.inr h)
    · exact .inl (.inl h)
    · exact .inr h
/-- Best has one answer. -/
theorem best_one {major : Int} {least : V} {l : List V} {A B : Option V} (h1 : BestP major least l A) (h2 : BestP major least l B) : A = B := by
  cases A with
  | none =>
    cases B with
    | none => rfl
    | some y => have := h1 y h2.1 h2.2.1; rw [h2.2.2.1] at this; cases this
  | some x =>
    cases B with
    | none => have := h2 x h1.1 h1.2.1; rw [h1.2.2.1] at this; cases this
    | some y =>
      have a := h1.2.2.2 y h2.1 h2.2.1 h2.2.2.1
      have b := h2.2.2.2 x h1.1 h1.2.1 h1.2.2.1
      rw [less_no] at a b
      congr 1
      cases x; cases y
      simp at a b ⊢
      omega
/-- The last one of a rising list that may be is the greatest one. -/
theorem best_last {major : Int} {least : V} {l : List V} {k : Nat} (h : Up l) (hk : k < l.length) (h1 : l[k].a = major) (h2 : less l[k] least = false) (h3 : ∀ j (hj : j < l.length), k < j → l[j].a ≠ major ∨ less l[j] least = true) : BestP major least l (some l[k]) := by
  refine ⟨List.getElem_mem hk, h1, h2, fun x hm hm2 hl => ?_⟩
  obtain ⟨j, hj, rfl⟩ := List.getElem_of_mem hm
  rcases Nat.lt_trichotomy j k with g | g | g
  · have := List.pairwise_iff_getElem.1 h j k hj hk g
    rw [less_iff] at this
    rw [less_no]
    omega
  · subst g; exact less_irr _
  · rcases h3 j hj g with h4 | h4
    · exact absurd hm2 h4
    · rw [h4] at hl; cases hl
theorem best_nothing {major : Int} {least : V} {l : List V} (h3 : ∀ j (hj : j < l.length), l[j].a ≠ major ∨ less l[j] least = true) : BestP major least l none := by
  intro x hm hm2
  obtain ⟨j, hj, rfl⟩ := List.getElem_of_mem hm
  rcases h3 j hj with h4 | h4
  · exact absurd hm2 h4
  · exact h4
theorem best_mem {major : Int} {least : V} {l l' : List V} {A : Option V} (h : BestP major least l A) (hm : ∀ x, x ∈ l ↔ x ∈ l') : BestP major least l' A := by
  cases A with
  | none => exact fun x hx => h x ((hm x).2 hx)
  | some y => exact ⟨(hm y).1 h.1, h.2.1, h.2.2.1, fun x hx => h.2.2.2 x ((hm x).2 hx)⟩
end Sv
end Go.Proofs.Ytmgnbpgcbehidaa
