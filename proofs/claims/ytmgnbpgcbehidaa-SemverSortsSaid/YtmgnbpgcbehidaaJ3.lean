/- The document's Around: its walk. -/
import Derived.Test.YtmgnbpgcbehidaaH5
import Derived.Outline
namespace Go.Proofs.Ytmgnbpgcbehidaa
open Go.RowKit
theorem keep_cell {w w' : World} {a : Addr} {v : Value} (hb : Below w.heap.size w w') (h : w.cell? a = some v) : w'.cell? a = some v := by
  rw [hb.cell (block_lt_of_cell h), h]
namespace Sv
theorem bel_put {l : List V} {v : V} {k : Nat} {A : Option V} (hk : k < l.length) (h : BelP (l.take k) v A) (h1 : l[k].a = v.a) (h2 : less l[k] v = true) (h3 : A = none ∨ ∃ y, A = some y ∧ less y l[k] = true) : BelP (l.take (k + 1)) v (some l[k]) := by
  refine ⟨mem_next hk, h1, h2, fun x hm hm2 hl => ?_⟩
  rcases take_mem hk hm with h4 | rfl
  · rcases h3 with rfl | ⟨y, rfl, h5⟩
    · rw [h x h4 hm2] at hl; cases hl
    · have h6 := h.2.2.2 x h4 hm2 hl
      rw [less_no] at h6 ⊢
      rw [less_iff] at h5
      omega
  · rw [less_no]; omega
theorem bel_stay {l : List V} {v : V} {k : Nat} {y : V} (hk : k < l.length) (h : BelP (l.take k) v (some y)) (h3 : less y l[k] = false) : BelP (l.take (k + 1)) v (some y) := by
  obtain ⟨a, b, c, d⟩ := h
  refine ⟨mem_more hk a, b, c, fun x hm hm2 hl => ?_⟩
  rcases take_mem hk hm with h4 | rfl
  · exact d x h4 hm2 hl
  · exact h3
theorem abv_pass {l : List V} {v : V} {k : Nat} {A : Option V} (hk : k < l.length) (h : AbvP (l.take k) v A) (hx : l[k].a ≠ v.a ∨ less v l[k] = false) : AbvP (l.take (k + 1)) v A := by
  cases A with
  | none => exact abv_skip hk h hx
  | some y =>
    obtain ⟨a, b, c, d⟩ := h
    refine ⟨mem_more hk a, b, c, fun x hm hm2 hl => ?_⟩
    rcases take_mem hk hm with h1 | rfl
    · exact d x h1 hm2 hl
    · rcases hx with h2 | h2
      · exact absurd hm2 h2
      · rw [h2] at hl; cases hl
theorem abv_put {l : List V} {v : V} {k : Nat} {A : Option V} (hk : k < l.length) (h : AbvP (l.take k) v A) (h1 : l[k].a = v.a) (h2 : less v l[k] = true) (h3 : A = none ∨ ∃ y, A = some y ∧ less l[k] y = true) : AbvP (l.take (k + 1)) v (some l[k]) := by
  refine ⟨mem_next hk, h1, h2, fun x hm hm2 hl => ?_⟩
  rcases take_mem hk hm with h4 | rfl
  · rcases h3 with rfl | ⟨y, rfl, h5⟩
    · rw [h x h4 hm2] at hl; cases hl
    · have h6 := h.2.2.2 x h4 hm2 hl
      rw [less_no] at h6 ⊢
      rw [less_iff] at h5
      omega
  · rw [less_no]; omega
theorem abv_stay {l : List V} {v : V} {k : Nat} {y : V} (hk : k < l.length) (h : AbvP (l.take k) v (some y)) (h3 : less l[k] y = false) : AbvP (l.take (k + 1)) v (some y) := by
  obtain ⟨a, b, c, d⟩ := h
  refine ⟨mem_more hk a, b, c, fun x hm hm2 hl => ?_⟩
  rcases take_mem hk hm with h4 | rfl
  · exact d x h4 hm2 hl
  · exact h3
/-- One answer each. -/
theorem bel_one {l : List V} {v : V} {A B : Option V} (h1 : BelP l v A) (h2 : BelP l v B) : A = B := by
  cases A with
  | none =>
    cases B with
    | none => rfl
    | some y => have := h1 y h2.1 h2.2.1; rw [h2.2.2.1] at this; cases this
  | some x =>
    cases B with
    | none => have := h2 x h1.1 h1.2.1; rw [h1.2.2.1] at this; cases this
    | some y =>
      have a := h1.2.2.2 y h2.1 h2.2.1 h2.2.2.1
      have b := h2.2.2.2 x h1.1 h1.2.1 h1.2.2.1
      rw [less_no] at a b
      congr 1
      cases x; cases y
      simp at a b ⊢
      omega
theorem abv_one {l : List V} {v : V} {A B : Option V} (h1 : AbvP l v A) (h2 : AbvP l v B) : A = B := by
  cases A with
  | none =>
    cases B with
    | none => rfl
    | some y => have := h1 y h2.1 h2.2.1; rw [h2.2.2.1] at this; cases this
  | some x =>
    cases B with
    | none => have := h2 x h1.1 h1.2.1; rw [h1.2.2.1] at this; cases this
    | some y =>
      have a := h1.2.2.2 y h2.1 h2.2.1 h2.2.2.1
      have b := h2.2.2.2 x h1.1 h1.2.1 h1.2.2.1
      rw [less_no] at a b
      congr 1
      cases x; cases y
      simp at a b ⊢
      omega
end Sv
end Go.Proofs.Ytmgnbpgcbehidaa
