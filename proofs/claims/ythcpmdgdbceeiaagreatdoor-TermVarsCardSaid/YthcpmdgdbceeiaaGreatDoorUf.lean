/- What is put stays small; the answers of TermTwice (mathematics). -/
import Derived.Test.YthcpmdgdbceeiaaGreatDoorUb
namespace Go.Proofs.YthcpmdgdbceeiaaGreatDoor
open Go.RowKit
theorem Sm.all : ∀ {d : Nat} {t : Tm}, Dp d t → Sm d t → ∀ d', Sm d' t := by
  intro d
  induction d with
  | zero => intro t h; cases h
  | succ d ih =>
    intro t hd hs d'
    cases d' with
    | zero => trivial
    | succ d' =>
      obtain ⟨k, p, n, N, kids⟩ := t
      exact ⟨hs.1, fun x hx => ih (hd x hx) (hs.2 x hx) d'⟩
theorem sub_sm {σ : ByteArray → Option Tm} (hσ : ∀ n y, σ n = some y → ∀ d', Sm d' y) : ∀ {d : Nat} {t : Tm}, Dp d t → Sm d t → ∀ d', Sm d' (sub σ d t) := by
  intro d
  induction d with
  | zero => intro t h; cases h
  | succ d ih =>
    intro t hd hs d'
    obtain ⟨k, p, n, N, kids⟩ := t
    cases e : (if k = 1 then σ n else none) with
    | some y =>
      by_cases hk : k = 1
      · subst hk
        rw [if_pos rfl] at e
        rw [sub_yes e]
        exact hσ n y e d'
      · rw [if_neg hk] at e; cases e
    | none =>
      rw [sub_no e]
      cases d' with
      | zero => trivial
      | succ d' =>
        refine ⟨by rw [List.length_map]; exact hs.1, fun x hx => ?_⟩
        obtain ⟨z, hz, rfl⟩ := List.mem_map.1 hx
        exact ih (hd z hz) (hs.2 z hz) d'
theorem one1_sm {a : ByteArray} {x : Tm} (h : ∀ d', Sm d' x) : ∀ n y, one1 a x n = some y → ∀ d', Sm d' y := by
  intro n y e
  unfold one1 at e
  split at e
  · cases e; exact h
  · cases e
theorem two2_sm {a b : ByteArray} {x y : Tm} (h : ∀ d', Sm d' x) (h2 : ∀ d', Sm d' y) : ∀ n z, two2 a x b y n = some z → ∀ d', Sm d' z := by
  intro n z e
  unfold two2 at e
  split at e
  · cases e; exact h
  · split at e
    · cases e; exact h2
    · cases e
end Go.Proofs.YthcpmdgdbceeiaaGreatDoor
