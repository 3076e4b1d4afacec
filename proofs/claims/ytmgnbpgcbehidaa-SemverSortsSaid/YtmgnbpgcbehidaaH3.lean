/- What Around answers. -/
import Derived.Test.YtmgnbpgcbehidaaH1
namespace Go.Proofs.Ytmgnbpgcbehidaa
open Go.RowKit
namespace Sv
/-- The greatest one of a list that is ahead of v and has its first number. -/
def BelP (l : List V) (v : V) : Option V → Prop
  | none => ∀ x ∈ l, x.a = v.a → less x v = false
  | some y => y ∈ l ∧ y.a = v.a ∧ less y v = true ∧ ∀ x ∈ l, x.a = v.a → less x v = true → less y x = false
/-- The least one of a list that is behind v and has its first number. -/
def AbvP (l : List V) (v : V) : Option V → Prop
  | none => ∀ x ∈ l, x.a = v.a → less v x = false
  | some y => y ∈ l ∧ y.a = v.a ∧ less v y = true ∧ ∀ x ∈ l, x.a = v.a → less v x = true → less x y = false
theorem take_mem {l : List V} {k : Nat} {x : V} (hk : k < l.length) (h : x ∈ l.take (k + 1)) : x ∈ l.take k ∨ x = l[k] := by
  rw [List.take_succ_eq_append_getElem hk, List.mem_append] at h
  simpa using h
theorem mem_next {l : List V} {k : Nat} (hk : k < l.length) : l[k] ∈ l.take (k + 1) := by
  rw [List.take_succ_eq_append_getElem hk]; exact List.mem_append.2 (.inr (List.mem_singleton.2 rfl))
theorem mem_more {l : List V} {k : Nat} {x : V} (hk : k < l.length) (h : x ∈ l.take k) : x ∈ l.take (k + 1) := by
  rw [List.take_succ_eq_append_getElem hk, List.mem_append]; exact .inl h
theorem asc_before {l : List V} (ha : l.Pairwise fun a b => less b a = false) {k : Nat} (hk : k < l.length) {x : V} (hx : x ∈ l.take k) : less l[k] x = false := by
  obtain ⟨i, hi, rfl⟩ := List.getElem_of_mem hx
  rw [List.length_take] at hi
  rw [List.getElem_take]
  exact List.pairwise_iff_getElem.1 ha i k (by omega) hk (by omega)
theorem asc_behind {l : List V} (ha : l.Pairwise fun a b => less b a = false) {k : Nat} (hk : k < l.length) {x : V} (hx : x ∈ l) (hn : x ∉ l.take k) : less x l[k] = false := by
  obtain ⟨i, hi, rfl⟩ := List.getElem_of_mem hx
  rcases Nat.lt_trichotomy i k with h | h | h
  · exact absurd (List.mem_take_iff_getElem.2 ⟨i, by omega, rfl⟩) hn
  · subst h; rw [less_no]; omega
  · exact List.pairwise_iff_getElem.1 ha k i hk hi h
theorem bel_skip {l : List V} {v : V} {k : Nat} {A : Option V} (hk : k < l.length) (h : BelP (l.take k) v A) (hx : l[k].a ≠ v.a ∨ less l[k] v = false) : BelP (l.take (k + 1)) v A := by
  cases A with
  | none =>
    intro x hm hm2
    rcases take_mem hk hm with h1 | rfl
    · exact h x h1 hm2
    · rcases hx with h2 | h2
      · exact absurd hm2 h2
      · exact h2
  | some y =>
    obtain ⟨a, b, c, d⟩ := h
    refine ⟨mem_more hk a, b, c, fun x hm hm2 hl => ?_⟩
    rcases take_mem hk hm with h1 | rfl
    · exact d x h1 hm2 hl
    · rcases hx with h2 | h2
      · exact absurd hm2 h2
      · rw [h2] at hl; cases hl
theorem bel_next {l : List V} {v : V} {k : Nat} (ha : l.Pairwise fun a b => less b a = false) (hk : k < l.length) (h1 : l[k].a = v.a) (h2 : less l[k] v = true) : BelP (l.take (k + 1)) v (some l[k]) := by
  refine ⟨mem_next hk, h1, h2, fun x hm _ _ => ?_⟩
  rcases take_mem hk hm with h3 | rfl
  · exact asc_before ha hk h3
  · rw [less_no]; omega
theorem abv_skip {l : List V} {v : V} {k : Nat} (hk : k < l.length) (h : AbvP (l.take k) v none) (hx : l[k].a ≠ v.a ∨ less v l[k] = false) : AbvP (l.take (k + 1)) v none := by
  intro x hm hm2
  rcases take_mem hk hm with h1 | rfl
  · exact h x h1 hm2
  · rcases hx with h2 | h2
    · exact absurd hm2 h2
    · exact h2
theorem abv_found {l : List V} {v : V} {k : Nat} (ha : l.Pairwise fun a b => less b a = false) (hk : k < l.length) (h : AbvP (l.take k) v none) (h1 : l[k].a = v.a) (h2 : less v l[k] = true) : AbvP l v (some l[k]) := by
  refine ⟨List.getElem_mem hk, h1, h2, fun x hm hm2 hl => ?_⟩
  refine asc_behind ha hk hm fun hn => ?_
  have := h x hn hm2
  rw [this] at hl; cases hl
theorem bel_stop {l : List V} {v : V} {k : Nat} {A : Option V} (ha : l.Pairwise fun a b => less b a = false) (hk : k < l.length) (h : BelP (l.take k) v A) (h2 : less v l[k] = true) : BelP l v A := by
  have hbig : ∀ x ∈ l, x ∉ l.take k → less x v = false := fun x hm hn => by
    have h3 := asc_behind ha hk hm hn
    rw [less_no] at h3 ⊢
    rw [less_iff] at h2
    omega
  cases A with
  | none =>
    intro x hm hm2
    by_cases hn : x ∈ l.take k
    · exact h x hn hm2
    · exact hbig x hm hn
  | some y =>
    obtain ⟨a, b, c, d⟩ := h
    refine ⟨List.mem_of_mem_take a, b, c, fun x hm hm2 hl => ?_⟩
    by_cases hn : x ∈ l.take k
    · exact d x hn hm2 hl
    · rw [hbig x hm hn] at hl; cases hl
theorem bel_mem {l l' : List V} {v : V} {A : Option V} (h : BelP l v A) (hm : ∀ x, x ∈ l ↔ x ∈ l') : BelP l' v A := by
  cases A with
  | none => exact fun x hx => h x ((hm x).2 hx)
  | some y => exact ⟨(hm y).1 h.1, h.2.1, h.2.2.1, fun x hx => h.2.2.2 x ((hm x).2 hx)⟩
theorem abv_mem {l l' : List V} {v : V} {A : Option V} (h : AbvP l v A) (hm : ∀ x, x ∈ l ↔ x ∈ l') : AbvP l' v A := by
  cases A with
  | none => exact fun x hx => h x ((hm x).2 hx)
  | some y => exact ⟨(hm y).1 h.1, h.2.1, h.2.2.1, fun x hx => h.2.2.2 x ((hm x).2 hx)⟩
end Sv
/-- A slice of one version, or none. -/
def OneV (w : World) (base : Nat) (v : Value) : Option Sv.V → Prop
  | none => v = .slice none 0 0
  | some y => ∃ b, base ≤ b ∧ v = .slice (some ⟨b, 0, none⟩) 1 1 ∧ VAt w b 0 y
theorem OneV.below {w w' : World} {base : Nat} {v : Value} {A : Option Sv.V} (h : OneV w base v A) (hb : Below w.heap.size w w') : OneV w' base v A := by
  cases A with
  | none => exact h
  | some y =>
    obtain ⟨b, h0, h1, h2⟩ := h
    exact ⟨b, h0, h1, h2.below hb h2.lt⟩
end Go.Proofs.Ytmgnbpgcbehidaa
